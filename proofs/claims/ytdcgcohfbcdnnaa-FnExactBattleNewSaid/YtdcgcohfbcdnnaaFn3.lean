/- OrdKind: the program's and the model's answers. -/
import Derived.Test.YtdcgcohfbcdnnaaFn2
namespace Go.Proofs.Ytdcgcohfbcdnnaa
set_option maxRecDepth 100000
open Go.RowKit

end Go.Proofs.Ytdcgcohfbcdnnaa
