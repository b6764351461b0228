/- The reader of a code: pick and odd. -/
import Derived.Test.YtghllfaeiffgdaaNextS
import Derived.Test.YtghllfaeiffgdaaMark
namespace Go.Proofs.Ytghllfaeiffgdaa
set_option maxRecDepth 100000
open Go.RowKit

end Go.Proofs.Ytghllfaeiffgdaa
