/-
  Bounds: the walk of ObjectBounds. Nothing here is a statement of the seed.
-/
import Derived.Test.YtdlinlkdielmkaaObjBdF
import Derived.Test.YtdlinlkdielmkaaObjBdM
set_option linter.unusedSimpArgs false
set_option linter.unusedVariables false
namespace Go.Proofs.Ytdlinlkdielmkaa.WK
open Go.RowKit WM NR OM OR
set_option maxHeartbeats 4000000
set_option maxRecDepth 10000

theorem ObjectBounds_walk {w : World} {y : Int} {b : Bool} (hy : 0 ≤ y ∧ y ≤ 255) :
    Calls Try.prog 7 #[.int .u8 y, .bool b] w fun e w' => e = .returned (.bool true) ∧ Below w.heap.size w w' := by
  cases b
  · rcases (show y % 6 = 0 ∨ y % 6 = 1 ∨ y % 6 = 2 ∨ y % 6 = 3 ∨ y % 6 = 4 ∨ y % 6 = 5 by omega) with hk | hk | hk | hk | hk | hk
    · exact bounds_0_f hy hk
    · exact bounds_1_f hy hk
    · exact bounds_2_f hy hk
    · exact bounds_3_f hy hk
    · exact bounds_4_f hy hk
    · exact bounds_5_f hy hk
  · rcases (show y % 6 = 0 ∨ y % 6 = 1 ∨ y % 6 = 2 ∨ y % 6 = 3 ∨ y % 6 = 4 ∨ y % 6 = 5 by omega) with hk | hk | hk | hk | hk | hk
    · exact bounds_0_m hy hk
    · exact bounds_1_m hy hk
    · exact bounds_2_m hy hk
    · exact bounds_3_m hy hk
    · exact bounds_4_m hy hk
    · exact bounds_5_m hy hk
end Go.Proofs.Ytdlinlkdielmkaa.WK
