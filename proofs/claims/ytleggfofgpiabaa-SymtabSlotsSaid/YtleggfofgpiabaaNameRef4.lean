/-
  The reference for layer 2: stems and versions, order.
-/
import Derived.Test.YtleggfofgpiabaaNameRef3
set_option linter.unusedSimpArgs false
set_option linter.unusedVariables false
namespace Go.Proofs.Ytleggfofgpiabaa.NF
open Go.RowKit NM

end Go.Proofs.Ytleggfofgpiabaa.NF
