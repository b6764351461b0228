/- OrdKind: the program's and the model's answers. -/
import Derived.Test.YtjkkopjmpmbapaaFn2
namespace Go.Proofs.Ytjkkopjmpmbapaa
set_option maxRecDepth 100000
open Go.RowKit

end Go.Proofs.Ytjkkopjmpmbapaa
