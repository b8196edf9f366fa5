/- GlueSums' walk, and its table. -/
import Derived.Test.YtdlbpepkgoandaaDoorLawSums2
import Derived.Test.YtdlbpepkgoandaaDoorLaidGUnits
namespace Go.Proofs.YtdlbpepkgoandaaDoor
end Go.Proofs.YtdlbpepkgoandaaDoor
