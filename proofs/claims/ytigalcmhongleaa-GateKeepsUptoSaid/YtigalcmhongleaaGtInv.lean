/-
  What holds of every table that calls make: no two gates have one owner or one module, a gate of no owner is the zero one; what a call does to the gates that are free. Lists alone.
-/
import Derived.Test.YtigalcmhongleaaGtMath
set_option linter.unusedSimpArgs false
set_option linter.unusedVariables false
namespace Go.Proofs.Ytigalcmhongleaa.GA
open Go.RowKit WM NR OM OR
structure Inv (f : Tb) : Prop where
  one : ∀ i j, i < 8 → j < 8 → i ≠ j → (f i).ow ≠ 0 → (f j).ow ≠ 0 → (f i).ow ≠ (f j).ow ∧ (f i).nm ≠ (f j).nm
  zero : ∀ i, i < 8 → (f i).ow = 0 → f i = b0
theorem inv_zero : Inv zeroT := ⟨fun i j _ _ _ h => absurd rfl h, fun i _ _ => rfl⟩
theorem place_cases (f : Tb) (m : List UInt8) : (place f m = -1 ∧ ∀ j, j < 8 → (f j).ow ≠ 0 → (f j).nm ≠ m) ∨ ∃ k : Nat, k < 8 ∧ place f m = (k : Int) ∧ (f k).ow ≠ 0 ∧ (f k).nm = m := by
  rcases fst8_cases (hasB f m) with ⟨h, hn⟩ | ⟨k, hk, h, hy, -⟩
  · refine Or.inl ⟨h, fun j hj h1 h2 => ?_⟩
    have := hn j hj
    simp [hasB, h1, h2] at this
  · refine Or.inr ⟨k, hk, h, ?_⟩
    simpa [hasB] using hy
theorem own_no {f : Tb} {o : Int} (h : ¬ ownB f o = true) : ∀ j, j < 8 → (f j).ow ≠ o := by
  intro j hj hh
  rcases fst8_cases (fun g => decide ((f g).ow = o)) with ⟨h1, hn⟩ | ⟨k, hk, h1, hy, -⟩
  · have := hn j hj
    simp [hh] at this
  · exact h (by unfold ownB; rw [h1]; simp)
theorem first_cases (f : Tb) : (firstB f = -1 ∧ ∀ j, j < 8 → (f j).ow ≠ 0) ∨ ∃ k : Nat, k < 8 ∧ firstB f = (k : Int) ∧ (f k).ow = 0 := by
  rcases fst8_cases (fun g => decide ((f g).ow = 0)) with ⟨h1, hn⟩ | ⟨k, hk, h1, hy, -⟩
  · exact Or.inl ⟨h1, fun j hj => by simpa using hn j hj⟩
  · exact Or.inr ⟨k, hk, h1, by simpa using hy⟩
theorem inv_set {f : Tb} (h : Inv f) {k : Nat} {b : Bd} (hb : b.ow = 0 → b = b0) (hn : b.ow ≠ 0 → ∀ j, j < 8 → j ≠ k → (f j).ow ≠ 0 → (f j).ow ≠ b.ow ∧ (f j).nm ≠ b.nm) : Inv (setT f k b) := by
  refine ⟨fun i j hi hj hij h1 h2 => ?_, fun i hi h1 => ?_⟩
  · by_cases ei : i = k
    · subst ei
      rw [setT_same] at h1 ⊢
      rw [setT_other (Ne.symm hij)] at h2 ⊢
      have := hn h1 j hj (Ne.symm hij) h2
      exact ⟨Ne.symm this.1, Ne.symm this.2⟩
    · rw [setT_other ei] at h1 ⊢
      by_cases ej : j = k
      · subst ej
        rw [setT_same] at h2 ⊢
        exact hn h2 i hi ei h1
      · rw [setT_other ej] at h2 ⊢
        exact h.one i j hi hj hij h1 h2
  · by_cases ei : i = k
    · subst ei
      rw [setT_same] at h1 ⊢
      exact hb h1
    · rw [setT_other ei] at h1 ⊢
      exact h.zero i hi h1
/-- what a call leaves: the table as it was, or one gate set -/
theorem open_what (f : Tb) (b : Bd) : (openM f b).t = f ∨ ∃ k : Nat, k < 8 ∧ (openM f b).t = setT f k b ∧ b.ow ≠ 0 ∧ (f k).ow = 0 ∧ place f b.nm = -1 ∧ (∀ j, j < 8 → (f j).ow ≠ b.ow) := by
  unfold openM
  by_cases h0 : NM.chk b.nm ≠ 0
  · left; rw [if_pos h0]
  · rw [if_neg h0]
    by_cases h1 : b.ow = 0 ∨ b.bs = 0
    · left; rw [if_pos h1]
    · rw [if_neg h1]
      by_cases h2 : 0 ≤ place f b.nm ∨ ownB f b.ow = true
      · left; rw [if_pos h2]
      · rw [if_neg h2]
        rcases first_cases f with ⟨h3, -⟩ | ⟨k, hk, h3, hz⟩
        · left; rw [h3]; rfl
        · right
          refine ⟨k, hk, ?_, fun h => h1 (Or.inl h), hz, ?_, own_no (fun h => h2 (Or.inr h))⟩
          · rw [h3, if_pos (by omega), Int.toNat_natCast]
          · rcases place_cases f b.nm with ⟨h4, -⟩ | ⟨j, hj, h4, -⟩
            · exact h4
            · exact absurd (Or.inl (by omega)) h2
theorem turn_what (f : Tb) (b : Bd) : (turnM f b).t = f ∨ ∃ k : Nat, k < 8 ∧ (turnM f b).t = setT f k b ∧ b.ow ≠ 0 ∧ (f k).ow ≠ 0 ∧ (f k).nm = b.nm ∧ (∀ j, j < 8 → (f j).ow ≠ b.ow) := by
  unfold turnM
  by_cases h1 : b.ow = 0 ∨ b.bs = 0
  · left; rw [if_pos h1]
  · rw [if_neg h1]
    by_cases h2 : place f b.nm < 0
    · left; rw [if_pos h2]
    · rw [if_neg h2]
      by_cases h3 : ownB f b.ow = true
      · left; rw [if_pos h3]
      · rw [if_neg h3]
        right
        rcases place_cases f b.nm with ⟨h4, -⟩ | ⟨k, hk, h4, h5, h6⟩
        · exact absurd (by omega) h2
        · exact ⟨k, hk, by rw [h4, Int.toNat_natCast], fun h => h1 (Or.inl h), h5, h6, own_no h3⟩
theorem close_what (f : Tb) (m : List UInt8) : ((closeM f m).t = f ∧ place f m = -1) ∨ ∃ k : Nat, k < 8 ∧ (closeM f m).t = setT f k b0 ∧ (f k).ow ≠ 0 ∧ (f k).nm = m := by
  unfold closeM
  rcases place_cases f m with ⟨h4, -⟩ | ⟨k, hk, h4, h5, h6⟩
  · left; rw [h4]; exact ⟨rfl, rfl⟩
  · right
    exact ⟨k, hk, by rw [h4, if_neg (by omega), Int.toNat_natCast], h5, h6⟩
theorem inv_act {f : Tb} (h : Inv f) (x : Ac) : Inv (actM f x) := by
  unfold actM actR
  by_cases h2 : x.kind % 5 = 2
  · rw [if_pos h2]
    rcases turn_what f x.b with e | ⟨k, hk, e, ho, h5, h6, hn⟩
    · rw [e]; exact h
    · rw [e]
      refine inv_set h (fun hz => absurd hz ho) (fun _ j hj hjk hjo => ⟨hn j hj, ?_⟩)
      rw [← h6]
      exact (h.one j k hj hk hjk hjo h5).2
  · rw [if_neg h2]
    by_cases h3 : x.kind % 5 = 3
    · rw [if_pos h3]
      rcases close_what f x.b.nm with ⟨e, -⟩ | ⟨k, hk, e, -⟩
      · rw [e]; exact h
      · rw [e]
        exact inv_set h (fun _ => rfl) (fun hz => absurd rfl hz)
    · rw [if_neg h3]
      by_cases h4 : x.kind % 5 = 4
      · rw [if_pos h4]
        have : (findM f x.b.nm).t = f := by unfold findM; split <;> rfl
        rw [this]; exact h
      · rw [if_neg h4]
        rcases open_what f x.b with e | ⟨k, hk, e, ho, hz, hp, hn⟩
        · rw [e]; exact h
        · rw [e]
          refine inv_set h (fun hz => absurd hz ho) (fun _ j hj hjk hjo => ⟨hn j hj, ?_⟩)
          rcases place_cases f x.b.nm with ⟨_, hno⟩ | ⟨i, hi, h7, _⟩
          · exact hno j hj hjo
          · omega
theorem inv_run {f : Tb} (h : Inv f) (l : List Ac) : Inv (runM f l) := by
  unfold runM
  induction l generalizing f with
  | nil => exact h
  | cons x l ih => exact ih (inv_act h x)
/-- the free gates, one set -/
theorem freeF_set (f : Tb) (k : Nat) (b : Bd) : ∀ n, freeF (setT f k b) n = freeF f n + (if k < n then (if b.ow = 0 then 1 else 0) - (if (f k).ow = 0 then 1 else 0) else 0) := by
  intro n
  induction n with
  | zero => simp [free_zero]
  | succ n ih =>
    rw [free_succ, free_succ, ih]
    by_cases e : n = k
    · subst e
      rw [setT_same, if_neg (Nat.lt_irrefl n), if_pos (Nat.lt_succ_self n)]
      by_cases h1 : b.ow = 0 <;> by_cases h2 : (f n).ow = 0 <;> simp only [h1, h2, if_true, if_false] <;> omega
    · rw [setT_other e]
      by_cases hk : k < n
      · rw [if_pos hk, if_pos (show k < n + 1 by omega)]
        split <;> omega
      · rw [if_neg hk, if_neg (show ¬ k < n + 1 by omega)]
        split <;> omega
theorem free_set {f : Tb} {k : Nat} (hk : k < 8) (b : Bd) : freeM (setT f k b) = freeM f + ((if b.ow = 0 then 1 else 0) - (if (f k).ow = 0 then 1 else 0)) := by
  unfold freeM
  rw [freeF_set, if_pos hk]
end Go.Proofs.Ytigalcmhongleaa.GA
