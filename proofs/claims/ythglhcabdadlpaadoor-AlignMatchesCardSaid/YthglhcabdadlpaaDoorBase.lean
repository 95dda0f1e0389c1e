/- num's inner calls, each for every argument: Parse answers Pl.parse, Text the decimal numeral; and the statements' own fixed calls (known) come out true wherever the table of powers of ten is as the library lays it. -/
import Derived.Test.YthglhcabdadlpaaDoorMag
import Derived.Test.YthglhcabdadlpaaDoorShelf
namespace Go.Proofs.YthglhcabdadlpaaDoor
open Go.RowKit

theorem ret_pair {k l : IntKind} {a b c d : Int} (h1 : a = c) (h2 : b = d) : Ending.returned (.tuple #[.int k a, .int l b]) = .returned (.tuple #[.int k c, .int l d]) := by rw [h1, h2]

end Go.Proofs.YthglhcabdadlpaaDoor
