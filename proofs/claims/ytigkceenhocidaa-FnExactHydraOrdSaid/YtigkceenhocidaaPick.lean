/- The reader of a code: pick and odd. -/
import Derived.Test.YtigkceenhocidaaNextS
import Derived.Test.YtigkceenhocidaaMark
namespace Go.Proofs.Ytigkceenhocidaa
set_option maxRecDepth 100000
open Go.RowKit

end Go.Proofs.Ytigkceenhocidaa
