/-
  The reference of layer 18: Turn, whole. Nothing here is a statement of the seed.
-/
import Derived.Test.YtigalcmhongleaaGtRef3
set_option linter.unusedSimpArgs false
set_option linter.unusedVariables false
namespace Go.Proofs.Ytigalcmhongleaa.GF
open Go.RowKit WM NR OM OR GA
set_option maxHeartbeats 4000000
set_option maxRecDepth 10000
section
variable {w : World} {f : Tb}
theorem refTurn_any (b : Bd) : Calls Try.prog 19 #[tV f, bdV b] w fun e u => e = .returned (.tuple #[tV (turnM f b).t, .int .i64 (turnM f b).g, bdV (turnM f b).b, .int .i64 (turnM f b).e]) ∧ Below w.heap.size w u := by
  by_cases h : b.ow = 0
  · rw [show turnM f b = ⟨f, 0, b0, 2⟩ by simp only [turnM, if_pos (show b.ow = 0 ∨ b.bs = 0 from Or.inl h)]]
    exact turn_arg0 b h
  · by_cases h2 : b.bs = 0
    · rw [show turnM f b = ⟨f, 0, b0, 2⟩ by simp only [turnM, if_pos (show b.ow = 0 ∨ b.bs = 0 from Or.inr h2)]]
      exact turn_arg1 b h h2
    · have h3 : ¬ (b.ow = 0 ∨ b.bs = 0) := fun h' => h'.elim h h2
      rcases fst8_cases (hasB f b.nm) with ⟨hp, -⟩ | ⟨kk, hkk, hp, -, -⟩
      · have hpl : place f b.nm = -1 := hp
        rw [show turnM f b = ⟨f, 0, b0, 8⟩ by simp only [turnM, if_neg h3, hpl]; rfl]
        exact turn_none b h h2 hpl
      · have hpl : place f b.nm = (kk : Int) := hp
        have hn : ¬ ((kk : Int) < 0) := by omega
        by_cases how : ownB f b.ow = true
        · rw [show turnM f b = ⟨f, 0, b0, 9⟩ by simp only [turnM, if_neg h3, hpl, if_neg hn, if_pos how]]
          exact turn_there b h h2 hpl how
        · rw [show turnM f b = ⟨setT f kk b, (kk : Int), f kk, 0⟩ by simp only [turnM, if_neg h3, hpl, if_neg hn, if_neg how, Int.toNat_natCast]]
          exact turn_yes b h h2 hkk hpl (by simpa using how)
end
end Go.Proofs.Ytigalcmhongleaa.GF
