/-
  The same calls as the reference reckons them. Plain mathematics.
-/
import Derived.Test.YtkmjacpcpchjoaaPageMath
set_option linter.unusedSimpArgs false
set_option linter.unusedVariables false
namespace Go.Proofs.Ytkmjacpcpchjoaa.PM

/-- what the reference asks of page j -/
def inWay (l : List Pg) (A N : Nat) (o : Int) (j : Nat) : Prop := (l.getD j zero).st ≠ 0 ∧ ((l.getD j zero).ow = o ∨ (A ≤ j ∧ j < A + N))
theorem any_iff (c : Pg → Bool) (l : List Pg) : l.any c = true ↔ ∃ j, j < l.length ∧ c (l.getD j zero) = true := by
  rw [List.any_eq_true]
  constructor
  · rintro ⟨x, hx, h⟩
    obtain ⟨j, hj, rfl⟩ := List.getElem_of_mem hx
    exact ⟨j, hj, by rw [getD_in hj]; exact h⟩
  · rintro ⟨j, hj, h⟩
    rw [getD_in hj] at h
    exact ⟨l[j], List.getElem_mem hj, h⟩
theorem ths_iff {l : List Pg} (hf : FineL l) {A N : Nat} {o : Int} (ho : o ≠ 0) (hAN : A + N ≤ l.length) : ths l A N o = true ↔ ∃ j, j < l.length ∧ inWay l A N o j := by
  unfold ths
  rw [Bool.or_eq_true, any_iff, any_iff]
  simp only [Int.toNat_natCast]
  constructor
  · rintro (⟨j, hj, h⟩ | ⟨j, hj, h⟩)
    · rw [List.length_take, List.length_drop] at hj
      have e : ((l.drop A).take N).getD j zero = l.getD (A + j) zero := by
        rw [List.getD_eq_getElem?_getD, List.getD_eq_getElem?_getD, List.getElem?_take_of_lt (by omega), List.getElem?_drop]
      rw [e, (hf (A + j) (by omega)).used] at h
      exact ⟨A + j, by omega, by simpa using h, Or.inr ⟨by omega, by omega⟩⟩
    · have h1 : (l.getD j zero).ow = o := by simpa [ownB] using h
      refine ⟨j, hj, ?_, Or.inl h1⟩
      rcases hf j hj with ⟨_, h2⟩ | ⟨h2, _⟩ | ⟨h2, _⟩
      · rw [h2] at h1; exact absurd h1.symm ho
      · omega
      · omega
  · rintro ⟨j, hj, h1, h2⟩
    rcases h2 with h2 | ⟨h2, h3⟩
    · exact Or.inr ⟨j, hj, by simpa [ownB] using h2⟩
    · refine Or.inl ⟨j - A, by rw [List.length_take, List.length_drop]; omega, ?_⟩
      have e : ((l.drop A).take N).getD (j - A) zero = l.getD j zero := by
        rw [List.getD_eq_getElem?_getD, List.getD_eq_getElem?_getD, List.getElem?_take_of_lt (by omega), List.getElem?_drop, show A + (j - A) = j by omega]
      rw [e, (hf j hj).used]
      simpa using h1
/-- the first n of an owner's pages turned -/
def firsts (c : Pg → Bool) (f : Nat → Pg → Pg) (l : List Pg) (n : Nat) : List Pg := updQ (fun j => decide (rank c l j < n)) c f l
theorem firsts_len (c : Pg → Bool) (f : Nat → Pg → Pg) (l : List Pg) (n : Nat) : (firsts c f l n).length = l.length := updQ_len ..
theorem firsts_zero (c : Pg → Bool) (f : Nat → Pg → Pg) (l : List Pg) : firsts c f l 0 = l := updQ_none (by intros; simp)
theorem firsts_end (c : Pg → Bool) (f : Nat → Pg → Pg) (l : List Pg) : firsts c f l (num c l) = upd c f l :=
  updQ_same fun j hj hc => ⟨decide_eq_true (rank_lt hj hc), rfl⟩
theorem firsts_at {c : Pg → Bool} {f : Nat → Pg → Pg} {l : List Pg} {n i : Nat} (hi : i < l.length) (hr : rank c l i = n) : (firsts c f l n).getD i zero = l.getD i zero := by
  unfold firsts
  rw [updQ_at hi, hr]; simp
theorem firsts_set {c : Pg → Bool} {f : Nat → Pg → Pg} {l : List Pg} {n i : Nat} (hi : i < l.length) (hc : c (l.getD i zero) = true) (hr : rank c l i = n) : (firsts c f l n).set i (f n (l.getD i zero)) = firsts c f l (n + 1) := by
  subst hr
  refine updQ_set hi hc fun j hj hcj => ?_
  by_cases e : i = j
  · subst e; simp
  · have : rank c l j ≠ rank c l i := by
      intro h
      rcases Nat.lt_or_ge i j with h' | h'
      · have := rank_lt h' hc; omega
      · have := rank_lt (show j < i by omega) hcj; omega
    simp [e]; omega
end Go.Proofs.Ytkmjacpcpchjoaa.PM
