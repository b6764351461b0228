/- OrdKind: the program's and the model's answers. -/
import Derived.Test.YtobookpaadpolabFn2
namespace Go.Proofs.Ytobookpaadpolab
open Go.RowKit

end Go.Proofs.Ytobookpaadpolab
