/-
  The reference for layer 2: names, stems and versions, order.
-/
import Derived.Test.YtleggfofgpiabaaNameLess
set_option linter.unusedSimpArgs false
set_option linter.unusedVariables false
namespace Go.Proofs.Ytleggfofgpiabaa.NF
open Go.RowKit NM

end Go.Proofs.Ytleggfofgpiabaa.NF
