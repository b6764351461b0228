/- TradesRun of both, and what its exact law needs. -/
import Derived.Test.YtjkkopjmpmbapaaTrRL
import Derived.Test.YtjkkopjmpmbapaaTrRJ
import Derived.Test.YtjkkopjmpmbapaaTrRS
namespace Go.Proofs.Ytjkkopjmpmbapaa
set_option maxRecDepth 100000
end Go.Proofs.Ytjkkopjmpmbapaa
