/- The model's OrdAdd. -/
import Derived.Test.YtjkkopjmpmbapaaAddS
import Derived.Test.YtjkkopjmpmbapaaAddJ
namespace Go.Proofs.Ytjkkopjmpmbapaa
set_option maxRecDepth 100000
open Go.RowKit


end Go.Proofs.Ytjkkopjmpmbapaa
