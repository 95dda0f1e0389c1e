/- LexFirst walked. -/
import Derived.Test.YtdjpjoipdlfooaaDoorLexK
import Derived.Test.YtdjpjoipdlfooaaDoorScanCut
namespace Go.Proofs.YtdjpjoipdlfooaaDoor
open Go.RowKit

theorem OwnT.small {w : World} {base : Nat} {v : Value} {ts : List (Lx.Tk × Nat)} (h : OwnT w base v ts) : ts.length ≤ 9223372036854775807 := by
  rcases h.2 with ⟨_, h0⟩ | ⟨g, cap, cur, rfl, _, _, hn, hm, _⟩
  · omega
  · unfold maxLen at hm; omega
theorem cut_list (s : ByteArray) (a : Nat) : (s.extract 0 a).data.toList = s.data.toList.take a := by simp
end Go.Proofs.YtdjpjoipdlfooaaDoor
