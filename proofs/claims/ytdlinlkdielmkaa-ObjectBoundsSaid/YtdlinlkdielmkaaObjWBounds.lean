/-
  Bounds: the walk of ObjectBounds. Nothing here is a statement of the seed.
-/
import Derived.Test.YtdlinlkdielmkaaObjBdF
import Derived.Test.YtdlinlkdielmkaaObjBdM
set_option linter.unusedSimpArgs false
set_option linter.unusedVariables false
namespace Go.Proofs.Ytdlinlkdielmkaa.WK
open Go.RowKit WM NR OM OR
set_option maxHeartbeats 4000000
set_option maxRecDepth 10000

end Go.Proofs.Ytdlinlkdielmkaa.WK
