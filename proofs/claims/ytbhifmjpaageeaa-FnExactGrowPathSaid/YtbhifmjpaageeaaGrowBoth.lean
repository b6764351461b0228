/- GrowPath of both. -/
import Derived.Test.YtbhifmjpaageeaaGrowI
import Derived.Test.YtbhifmjpaageeaaGrowPS
namespace Go.Proofs.Ytbhifmjpaageeaa
set_option maxRecDepth 100000
end Go.Proofs.Ytbhifmjpaageeaa
