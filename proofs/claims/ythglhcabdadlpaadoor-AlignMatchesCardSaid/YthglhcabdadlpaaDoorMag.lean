/- num.magnitude answers, for every text and every limit from 9 to 2^64 - 1, the number that the digits write if it is at most the limit, and whether there is one. -/
import Derived.Test.YthglhcabdadlpaaDoorRows
import Derived.Test.YthglhcabdadlpaaDoorPlain
import Derived.WalkKit
import Derived.WalkMore
import Derived.WalkSpells
import Derived.WalkLawsBesides
namespace Go.Proofs.YthglhcabdadlpaaDoor
open Go.RowKit

theorem ret_none {x : Option Nat} (h : x = none) : Ending.returned (.tuple #[.int .u64 0, .bool false]) = .returned (.tuple #[.int .u64 ((x.getD 0 : Nat) : Int), .bool x.isSome]) := by rw [h]; rfl
theorem ret_some {x : Option Nat} {m : Nat} (h : x = some m) : Ending.returned (.tuple #[.int .u64 (m : Int), .bool true]) = .returned (.tuple #[.int .u64 ((x.getD 0 : Nat) : Int), .bool x.isSome]) := by rw [h]; rfl

end Go.Proofs.YthglhcabdadlpaaDoor
