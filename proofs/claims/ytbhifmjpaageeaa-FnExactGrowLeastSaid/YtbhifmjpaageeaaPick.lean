/- The reader of a code: pick and odd. -/
import Derived.Test.YtbhifmjpaageeaaNextS
import Derived.Test.YtbhifmjpaageeaaMark
namespace Go.Proofs.Ytbhifmjpaageeaa
set_option maxRecDepth 100000
open Go.RowKit

end Go.Proofs.Ytbhifmjpaageeaa
