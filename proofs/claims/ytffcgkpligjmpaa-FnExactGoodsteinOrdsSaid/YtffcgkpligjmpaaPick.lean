/- The reader of a code: pick and odd. -/
import Derived.Test.YtffcgkpligjmpaaNextS
import Derived.Test.YtffcgkpligjmpaaMark
namespace Go.Proofs.Ytffcgkpligjmpaa
set_option maxRecDepth 100000
open Go.RowKit

end Go.Proofs.Ytffcgkpligjmpaa
