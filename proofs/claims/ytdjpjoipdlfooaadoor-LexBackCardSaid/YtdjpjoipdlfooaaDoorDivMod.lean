/- num.Div and num.Mod, for any two integers of 64 bits. -/
import Derived.Test.YtdjpjoipdlfooaaDoorKnown
namespace Go.Proofs.YtdjpjoipdlfooaaDoor
open Go.RowKit

end Go.Proofs.YtdjpjoipdlfooaaDoor
