/-
  Joined texts: IsaRef, IsaRef2, IsaRef3. Nothing here is a statement of the seed.
-/
import Derived.Test.YtdfafllldanfiaaIsaFn
set_option linter.unusedSimpArgs false
set_option linter.unusedVariables false
/-
  What the functions of the reference for layer 4 tell, call by call. Nothing here is a statement of the seed.
-/
namespace Go.Proofs.Ytdfafllldanfiaa.IF
open Go.RowKit WM IM WF

/-- the parts that are used, one by one, all numbers in their bounds -/
def In7 (o d a b m : Int) : Prop := 0 ≤ o ∧ o ≤ 21 ∧ 0 ≤ d ∧ d ≤ 7 ∧ 0 ≤ a ∧ a ≤ 7 ∧ 0 ≤ b ∧ b ≤ 7 ∧ -2147483648 ≤ m ∧ m ≤ 2147483647
theorem end_two {w w1 : World} {o1 o2 : Obj} (hb : Below (w.alloc o1).heap.size (w.alloc o1) w1) (hz : w.heap.size < w1.heap.size) : Below w.heap.size w (w1.alloc o2) := (end_alloc hb).alloc (Nat.le_of_lt hz) _
end Go.Proofs.Ytdfafllldanfiaa.IF

/-
  The reference's Check, by which parts an operation uses. Nothing here is a statement of the seed.
-/
namespace Go.Proofs.Ytdfafllldanfiaa.IF
open Go.RowKit WM IM WF

end Go.Proofs.Ytdfafllldanfiaa.IF

/-
  The reference's Check, by which parts an operation uses, further. Nothing here is a statement of the seed.
-/
namespace Go.Proofs.Ytdfafllldanfiaa.IF
open Go.RowKit WM IM WF

end Go.Proofs.Ytdfafllldanfiaa.IF
