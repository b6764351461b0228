/- OrdKind: the program's and the model's answers. -/
import Derived.Test.YtaleaagnkfbhpaaFn2
namespace Go.Proofs.Ytaleaagnkfbhpaa
open Go.RowKit

end Go.Proofs.Ytaleaagnkfbhpaa
