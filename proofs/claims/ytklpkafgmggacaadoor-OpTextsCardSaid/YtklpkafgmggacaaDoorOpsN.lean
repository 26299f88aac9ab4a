/- The code's instructions: all contracts that the laws' walks name. No conditions of its own. -/
import Derived.Test.YtklpkafgmggacaaDoorOpsN1
import Derived.Test.YtklpkafgmggacaaDoorOpsN3
namespace Go.Proofs.YtklpkafgmggacaaDoor.OpsN
end Go.Proofs.YtklpkafgmggacaaDoor.OpsN
