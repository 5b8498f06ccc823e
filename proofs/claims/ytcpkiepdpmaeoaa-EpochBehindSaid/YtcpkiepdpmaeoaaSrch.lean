/-
  Library contracts laid at this program.
-/
import Derived.Shelf.SlSorted.Search
import Derived.Test.YtcpkiepdpmaeoaaProg
namespace Go.Proofs
open Go.Shelf
def Try.searchL_ren : Go.Shelf.Ren := ⟨fun | 16 => 31 | n => n, fun | 3 => 3 | 35 => 72 | 4 => 4 | 38 => 74 | n => n, fun | n => n⟩
theorem Try.searchL : Go.Proofs.SlLaysO.n16 Try.prog Try.searchL_ren := {
  mixed := by kernel_rfl
  f16 := Try.func31.trans (congrArg some (by kernel_rfl))
  t3 := Try.underlying3
  a3 := Try.isAgg3
  z3 := Try.sizeOf3
  v3 := Try.zeroValue3
  t4 := Try.underlying4
  a4 := Try.isAgg4
  z4 := Try.sizeOf4
  v4 := Try.zeroValue4
  t35 := Try.underlying72
  a35 := Try.isAgg72
  z35 := Try.sizeOf72
  v35 := Try.zeroValue72
  t38 := Try.underlying74
  a38 := Try.isAgg74
  z38 := Try.sizeOf74
  v38 := Try.zeroValue74 }
end Go.Proofs
