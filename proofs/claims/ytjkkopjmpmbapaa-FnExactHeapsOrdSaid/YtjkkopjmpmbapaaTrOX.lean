/- HeapsOrd of both. -/
import Derived.Test.YtjkkopjmpmbapaaTrOJ
import Derived.Test.YtjkkopjmpmbapaaTrOS
namespace Go.Proofs.Ytjkkopjmpmbapaa
set_option maxRecDepth 100000
end Go.Proofs.Ytjkkopjmpmbapaa
