/- The code's instructions: all contracts that the laws' walks name. No conditions of its own. -/
import Derived.Test.YtklpkafgmggacaaOpsN1
import Derived.Test.YtklpkafgmggacaaOpsN3
namespace Go.Proofs.Ytklpkafgmggacaa.OpsN
end Go.Proofs.Ytklpkafgmggacaa.OpsN
