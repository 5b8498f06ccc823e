/-
  Package name: order; the closed cases.
-/
import Derived.Test.YtdfafllldanfiaaGreatNameTop
set_option linter.unusedSimpArgs false
set_option linter.unusedVariables false
namespace Go.Proofs.YtdfafllldanfiaaGreat.NF
open Go.RowKit NM

theorem bs_toList (l : List UInt8) : (bs l).toList = l := by rw [Lib.toList_data]; rfl
end Go.Proofs.YtdfafllldanfiaaGreat.NF
