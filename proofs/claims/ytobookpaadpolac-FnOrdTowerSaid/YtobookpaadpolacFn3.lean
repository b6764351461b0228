/- OrdKind: the program's and the model's answers. -/
import Derived.Test.YtobookpaadpolacFn2
namespace Go.Proofs.Ytobookpaadpolac
open Go.RowKit

end Go.Proofs.Ytobookpaadpolac
