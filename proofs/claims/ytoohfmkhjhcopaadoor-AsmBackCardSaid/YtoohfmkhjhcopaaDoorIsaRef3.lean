/-
  The reference's Check, by which parts an operation uses, further. Nothing here is a statement of the seed.
-/
import Derived.Test.YtoohfmkhjhcopaaDoorIsaRef
set_option linter.unusedSimpArgs false
set_option linter.unusedVariables false
namespace Go.Proofs.YtoohfmkhjhcopaaDoor.IF
open Go.RowKit WM IM WF

end Go.Proofs.YtoohfmkhjhcopaaDoor.IF
