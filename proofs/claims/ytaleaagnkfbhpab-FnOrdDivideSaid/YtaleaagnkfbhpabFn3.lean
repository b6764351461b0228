/- OrdKind: the program's and the model's answers. -/
import Derived.Test.YtaleaagnkfbhpabFn2
namespace Go.Proofs.Ytaleaagnkfbhpab
open Go.RowKit

end Go.Proofs.Ytaleaagnkfbhpab
