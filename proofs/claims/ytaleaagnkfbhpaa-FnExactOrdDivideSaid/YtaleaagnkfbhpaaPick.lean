/- The reader of a code: pick and odd. -/
import Derived.Test.YtaleaagnkfbhpaaNextS
import Derived.Test.YtaleaagnkfbhpaaMark
namespace Go.Proofs.Ytaleaagnkfbhpaa
open Go.RowKit

end Go.Proofs.Ytaleaagnkfbhpaa
