/- The reader of a code: pick and odd. -/
import Derived.Test.YtjkkopjmpmbapaaNextS
import Derived.Test.YtjkkopjmpmbapaaMark
namespace Go.Proofs.Ytjkkopjmpmbapaa
set_option maxRecDepth 100000
open Go.RowKit

end Go.Proofs.Ytjkkopjmpmbapaa
