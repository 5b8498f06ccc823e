/-
  Calls of a reader, as they come in: pairs of numbers.
-/
import Derived.Test.YtjmmkebnebhfoaaWireRow
set_option linter.unusedSimpArgs false
set_option linter.unusedVariables false
namespace Go.Proofs.Ytjmmkebnebhfoaa.NR
open Go.RowKit

/-- the slice v holds n calls -/
def Acts (B : Nat) (w : World) (v : Value) (n : Nat) : Prop :=
  ∃ a cap, v = .slice a n cap ∧ n ≤ cap ∧ cap ≤ maxLen ∧ (n = 0 ∨ ∃ g off, a = some ⟨g, off, none⟩ ∧ g < B ∧
    ∀ i, i < n → ∃ K M : Int, 0 ≤ K ∧ K ≤ 255 ∧ -2147483648 ≤ M ∧ M ≤ 2147483647 ∧ w.cell? ⟨g, off + i * 2, none⟩ = some (.int .u8 K) ∧ w.cell? ⟨g, off + i * 2 + 1, none⟩ = some (.int .i32 M))
theorem Acts.keep {B : Nat} {w w' : World} {v : Value} {n : Nat} (h : Acts B w v n) (hk : Below B w w') : Acts B w' v n := by
  obtain ⟨a, cap, e, h1, h2, h3⟩ := h
  refine ⟨a, cap, e, h1, h2, ?_⟩
  rcases h3 with h3 | ⟨g, off, ea, hg, hc⟩
  · exact Or.inl h3
  · refine Or.inr ⟨g, off, ea, hg, fun i hi => ?_⟩
    obtain ⟨K, M, k1, k2, k3, k4, k5, k6⟩ := hc i hi
    exact ⟨K, M, k1, k2, k3, k4, (hk.cell (p := ⟨g, off + i * 2, none⟩) hg).trans k5, (hk.cell (p := ⟨g, off + i * 2 + 1, none⟩) hg).trans k6⟩
end Go.Proofs.Ytjmmkebnebhfoaa.NR
