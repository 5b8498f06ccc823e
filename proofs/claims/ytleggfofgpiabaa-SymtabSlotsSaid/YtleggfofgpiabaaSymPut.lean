/-
  The reference of layer 13: an entry put in order. Nothing here is a statement of the seed.
-/
import Derived.Test.YtleggfofgpiabaaSymRef2
import Derived.Test.YtleggfofgpiabaaSymApp
import Derived.Test.YtleggfofgpiabaaNameRef4
set_option linter.unusedSimpArgs false
set_option linter.unusedVariables false
namespace Go.Proofs.Ytleggfofgpiabaa.SF
open Go.RowKit WM NR OM OR SM SR
set_option maxHeartbeats 4000000
set_option maxRecDepth 10000
/-- what put leaves -/
def IsPut (B : Nat) (ln : Nat) (l : List En) (w : World) : Ending → World → Prop := fun e w' => ∃ a c, e = .returned (.slice a (ln + 1) c) ∧ ReadsE (B ≤ ·) w' (.slice a (ln + 1) c) l ∧ Below B w w'
end Go.Proofs.Ytleggfofgpiabaa.SF
