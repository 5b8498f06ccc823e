/-
  The law HartSums, walked. Nothing here is a statement of the seed.
-/
import Derived.Test.YtihcellcdkhadaaHartWSuA
import Derived.Test.YtihcellcdkhadaaHartWSuB
import Derived.Deep.CutRange
set_option linter.unusedSimpArgs false
set_option linter.unusedVariables false
namespace Go.Proofs.Ytihcellcdkhadaa.WK
open Go.RowKit PM PR PF MM MR MF HM HR HF
set_option maxHeartbeats 16000000
set_option maxRecDepth 10000
theorem HartSums_walk {w : World} {a b y : Int} (ha : B32 a) (hb : B32 b) (hy : 0 ≤ y ∧ y ≤ 255) :
    Calls Try.prog 5 #[.int .u32 a, .int .u32 b, .int .u8 y] w fun e w' => e = .returned (.bool true) ∧ Below w.heap.size w w' := by
  rcases (show y % 5 = 0 ∨ y % 5 = 1 ∨ y % 5 = 2 ∨ y % 5 = 3 ∨ y % 5 = 4 by omega) with hk | hk | hk | hk | hk
  · exact sums_3 ha hb hy hk
  · exact sums_4 ha hb hy hk
  · exact sums_5 ha hb hy hk
  · exact sums_6 ha hb hy hk
  · exact sums_7 ha hb hy hk
end Go.Proofs.Ytihcellcdkhadaa.WK
