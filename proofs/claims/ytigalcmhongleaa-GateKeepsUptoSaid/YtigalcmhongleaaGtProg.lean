/-
  The program's table and its functions, gathered: what each law's walk says of it. Nothing here is a statement of the seed.
-/
import Derived.Test.YtigalcmhongleaaGtAwk
import Derived.Test.YtigalcmhongleaaGtWPlays
import Derived.Test.YtigalcmhongleaaGtWCounts
import Derived.Test.YtigalcmhongleaaGtWKeeps
import Derived.Test.YtigalcmhongleaaGtWForks
import Derived.Test.YtigalcmhongleaaGtPH
import Derived.Test.YtigalcmhongleaaGtWFull
set_option linter.unusedSimpArgs false
set_option linter.unusedVariables false
namespace Go.Proofs.Ytigalcmhongleaa.WK
open Go.RowKit WM NR OM OR GA GF GL GK
section
variable {w : World} {a : Option Addr} {n c : Nat} {l : List Ac} {a2 : Option Addr} {n2 c2 : Nat} {m : List Ac}
theorem GatePlays_walk (h : ReadsA (· < w.heap.size) w (.slice a n c) l) : Calls Try.prog 3 #[.slice a n c] w fun e w' => e = .returned (.bool true) ∧ Below w.heap.size w w' := GL.GatePlays_walk gp (awake_any gp) h
theorem GateCounts_walk (h : ReadsA (· < w.heap.size) w (.slice a n c) l) : Calls Try.prog 7 #[.slice a n c] w fun e w' => e = .returned (.bool true) ∧ Below w.heap.size w w' := GL.GateCounts_walk gp (awake_any gp) h
theorem GateKeeps_walk (h : ReadsA (· < w.heap.size) w (.slice a n c) l) : Calls Try.prog 5 #[.slice a n c] w fun e w' => e = .returned (.bool true) ∧ Below w.heap.size w w' := GL.GateKeeps_walk gp (awake_any gp) h
theorem GateForks_walk (h : ReadsA (· < w.heap.size) w (.slice a n c) l) (h2 : ReadsA (· < w.heap.size) w (.slice a2 n2 c2) m) : Calls Try.prog 4 #[.slice a n c, .slice a2 n2 c2] w fun e w' => e = .returned (.bool true) ∧ Below w.heap.size w w' := GL.GateForks_walk gp gp2 (awake_any gp) h h2
theorem GateFull_walk (x : Int) (hx : 0 ≤ x ∧ x ≤ 255) : Calls Try.prog 6 #[.int .u8 x] w fun e w' => e = .returned (.bool true) ∧ Below w.heap.size w w' := GL.GateFull_walk gp (awake_any gp) x hx
end
end Go.Proofs.Ytigalcmhongleaa.WK
