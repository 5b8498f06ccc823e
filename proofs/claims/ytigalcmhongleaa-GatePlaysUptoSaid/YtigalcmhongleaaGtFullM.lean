/-
  Eight gates filled one by one, one taken away, and one more. Plain mathematics; nothing here is a statement of the seed.
-/
import Derived.Test.YtigalcmhongleaaGtMath
set_option linter.unusedSimpArgs false
set_option linter.unusedVariables false
namespace Go.Proofs.Ytigalcmhongleaa.GA
open Go.RowKit
def nmN (i : Nat) : List UInt8 := [UInt8.ofNat (97 + i)]
def fillB (i : Nat) : Bd := ⟨nmN i, 1 + i, 80⟩
def fillT (i : Nat) : Tb := fun g => if g < i then fillB g else b0
def zB : Bd := ⟨[122], 99, 80⟩
theorem open_t {f : Tb} {b : Bd} (h : (openM f b).e = 0) : (openM f b).t = setT f (openM f b).g.toNat b := by
  unfold openM at h ⊢
  split at h
  · cases h
  · split at h
    · cases h
    · split at h
      · cases h
      · split at h
        · rename_i h1 h2 h3 h4
          rw [if_neg h1, if_neg h2, if_neg h3, if_pos h4]
        · cases h
theorem close_t {f : Tb} {m : List UInt8} (h : (closeM f m).e = 0) : (closeM f m).t = setT f (closeM f m).g.toNat b0 ∧ (closeM f m).b = f (closeM f m).g.toNat := by
  unfold closeM at h ⊢
  split at h
  · cases h
  · rename_i h1
    rw [if_neg h1]
    exact ⟨rfl, rfl⟩
theorem full_ge : ∀ i, i < 8 → (openM (fillT i) (fillB i)).g = i ∧ (openM (fillT i) (fillB i)).e = 0 := by decide
theorem full_t (i : Nat) (h : i < 8) : (openM (fillT i) (fillB i)).t = fillT (i + 1) := by
  obtain ⟨h1, h2⟩ := full_ge i h
  rw [open_t h2, h1]
  funext g
  unfold setT fillT
  by_cases hg : g = i
  · subst hg
    simp
  · have e1 : g ≠ (i : Int).toNat := by simpa using hg
    rw [if_neg e1]
    by_cases h3 : g < i
    · rw [if_pos h3, if_pos (by omega)]
    · rw [if_neg h3, if_neg (by omega)]
theorem full_z : (openM (fillT 8) zB).t = fillT 8 ∧ (openM (fillT 8) zB).e = 28 := by
  have h : (openM (fillT 8) zB).e = 28 := by decide
  refine ⟨?_, h⟩
  unfold openM at h ⊢
  split
  · rfl
  · split
    · rfl
    · split
      · rfl
      · split
        · rename_i h1 h2 h3 h4
          rw [if_neg h1, if_neg h2, if_neg h3, if_pos h4] at h
          cases h
        · rfl
theorem full_close : ∀ k, k < 8 → (closeM (fillT 8) (nmN k)).g = k ∧ (closeM (fillT 8) (nmN k)).e = 0 := by decide
/-- the table when k's module is away -/
def awayT (k : Nat) : Tb := setT (fillT 8) k b0
theorem full_close_t (k : Nat) (h : k < 8) : (closeM (fillT 8) (nmN k)).t = awayT k ∧ (closeM (fillT 8) (nmN k)).b = fillB k := by
  obtain ⟨h1, h2⟩ := full_close k h
  obtain ⟨h3, h4⟩ := close_t h2
  rw [h3, h4, h1]
  refine ⟨rfl, ?_⟩
  show fillT 8 k = fillB k
  unfold fillT
  rw [if_pos h]
theorem full_again : ∀ k, k < 8 → (openM (awayT k) zB).g = k ∧ (openM (awayT k) zB).e = 0 ∧ freeM (setT (awayT k) k zB) = 0 := by decide
theorem full_again_t (k : Nat) (h : k < 8) : (openM (awayT k) zB).t = setT (awayT k) k zB := by
  obtain ⟨h1, h2, _⟩ := full_again k h
  rw [open_t h2, h1]
  rfl
end Go.Proofs.Ytigalcmhongleaa.GA
