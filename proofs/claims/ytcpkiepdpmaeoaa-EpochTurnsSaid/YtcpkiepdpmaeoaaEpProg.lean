/-
  What the program's functions of layer 17 tell, gathered. Nothing here is a statement of the seed.
-/
import Derived.Test.YtcpkiepdpmaeoaaEpPE
namespace Go.Proofs.Ytcpkiepdpmaeoaa.EP
end Go.Proofs.Ytcpkiepdpmaeoaa.EP
