/- The code's At. Condition: the bytes lie as the facts say. -/
import Derived.Test.YtklpkafgmggacaaDoorOpsN0
namespace Go.Proofs.YtklpkafgmggacaaDoor.OpsN
open Go.RowKit Go.Proofs.YtklpkafgmggacaaDoor.Kit Go.Proofs.YtklpkafgmggacaaDoor.Byt Go.Proofs.YtklpkafgmggacaaDoor.Mem Go.Proofs.YtklpkafgmggacaaDoor.OpsM Go.Proofs.YtklpkafgmggacaaDoor.OpsA

end Go.Proofs.YtklpkafgmggacaaDoor.OpsN
