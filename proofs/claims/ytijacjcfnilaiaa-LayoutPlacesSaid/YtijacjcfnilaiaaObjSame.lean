/-
  Lists held against each other, as the reference does. Nothing here is a statement of the seed.
-/
import Derived.Test.YtijacjcfnilaiaaObjRow
import Derived.Deep.QuietTactic
import Derived.BigQuiet
import Derived.Lib.Strings
set_option linter.unusedSimpArgs false
set_option linter.unusedVariables false
namespace Go.Proofs.Ytijacjcfnilaiaa.OR
open Go.RowKit WM NR OM
set_option maxHeartbeats 4000000
set_option maxRecDepth 10000
theorem take_on {α : Type} {d : α} {l l' : List α} {k : Nat} (h : l.take k = l'.take k) (h1 : k < l.length) (h2 : k < l'.length) (e : l.getD k d = l'.getD k d) : l.take (k + 1) = l'.take (k + 1) := by
  rw [List.take_add_one, List.take_add_one, h]
  simp [h1, h2] at e
  simp [h1, h2, e]
theorem bs_toList (l : List UInt8) : (bs l).toList = l := by rw [Lib.toList_data]; rfl
theorem below_drewN {B : Nat} {w u : World} (h : Below B w u) (n : Nat) : Below B w (u.drewN n) := ⟨h.os, h.tape, h.output, h.size, h.block⟩
end Go.Proofs.Ytijacjcfnilaiaa.OR
