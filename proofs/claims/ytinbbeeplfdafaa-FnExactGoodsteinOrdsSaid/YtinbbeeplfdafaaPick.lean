/- The reader of a code: pick and odd. -/
import Derived.Test.YtinbbeeplfdafaaNextS
import Derived.Test.YtinbbeeplfdafaaMark
namespace Go.Proofs.Ytinbbeeplfdafaa
open Go.RowKit

end Go.Proofs.Ytinbbeeplfdafaa
