/-
  The reference of layer 18: Open, whole. Nothing here is a statement of the seed.
-/
import Derived.Test.YtigalcmhongleaaGtRef7
set_option linter.unusedSimpArgs false
set_option linter.unusedVariables false
namespace Go.Proofs.Ytigalcmhongleaa.GF
open Go.RowKit WM NR OM OR GA
set_option maxHeartbeats 4000000
set_option maxRecDepth 10000
section
variable {w : World} {f : Tb}
theorem refOpen_any (b : Bd) (hl : b.nm.length ≤ 2097152) : Calls Try.prog 22 #[tV f, bdV b] w fun e u => e = .returned (.tuple #[tV (openM f b).t, .int .i64 (openM f b).g, .int .i64 (openM f b).e]) ∧ Below w.heap.size w u := by
  have CK := fun u => NF.refCheckS (bs b.nm) (by rw [show (bs b.nm).size = b.nm.length from List.size_toArray]; exact hl) _ rfl u
  rw [show (bs b.nm).data.toList = b.nm by simp [bs]] at CK
  have CP := fun u => refPlace_any (w := u) (f := f) b.nm
  have CO := fun u => refOwned_any (w := u) (f := f) b.ow
  by_cases h0 : NM.chk b.nm = 0
  · by_cases h1 : b.ow = 0
    · rw [show openM f b = ⟨f, 0, b0, 2⟩ by simp only [openM, if_neg (not_not_intro h0), if_pos (show b.ow = 0 ∨ b.bs = 0 from Or.inl h1)]]
      exact open_arg0 (by rw [h0]; rfl) (by simpa using h1) CK
    · by_cases h2 : b.bs = 0
      · rw [show openM f b = ⟨f, 0, b0, 2⟩ by simp only [openM, if_neg (not_not_intro h0), if_pos (show b.ow = 0 ∨ b.bs = 0 from Or.inr h2)]]
        exact open_arg1 (by rw [h0]; rfl) (by simpa using h1) (by simpa using h2) CK
      · have h3 : ¬ (b.ow = 0 ∨ b.bs = 0) := fun h' => h'.elim h1 h2
        by_cases hp : 0 ≤ place f b.nm
        · rw [show openM f b = ⟨f, 0, b0, 9⟩ by simp only [openM, if_neg (not_not_intro h0), if_neg h3, if_pos (show 0 ≤ place f b.nm ∨ ownB f b.ow = true from Or.inl hp)]]
          exact open_there0 (by rw [h0]; rfl) (by simpa using h1) (by simpa using h2) CK (decide_eq_true hp) CP
        · by_cases ho : ownB f b.ow = true
          · rw [show openM f b = ⟨f, 0, b0, 9⟩ by simp only [openM, if_neg (not_not_intro h0), if_neg h3, if_pos (show 0 ≤ place f b.nm ∨ ownB f b.ow = true from Or.inr ho)]]
            exact open_there1 (by rw [h0]; rfl) (by simpa using h1) (by simpa using h2) CK (decide_eq_false hp) CP ho CO
          · have h4 : ¬ (0 ≤ place f b.nm ∨ ownB f b.ow = true) := fun h' => h'.elim hp ho
            refine open_fit (by rw [h0]; rfl) (by simpa using h1) (by simpa using h2) CK (decide_eq_false hp) CP (by simpa using ho) CO rfl ?_ ?_
            · intro j hj hz hb
              have e : firstB f = (j : Int) := fst8_yes hj (decide_eq_true hz) (fun i hi => decide_eq_false (hb i hi))
              simp only [openM, if_neg (not_not_intro h0), if_neg h3, if_neg h4, e, if_pos (show (0 : Int) ≤ (j : Int) by omega), Int.toNat_natCast]
              exact ⟨trivial, trivial, trivial⟩
            · intro hb
              have e : firstB f = -1 := fst8_no (fun i hi => decide_eq_false (hb i hi))
              simp only [openM, if_neg (not_not_intro h0), if_neg h3, if_neg h4, e]
              exact ⟨rfl, rfl, rfl⟩
  · rw [show openM f b = ⟨f, 0, b0, 6⟩ by simp only [openM, if_pos (show NM.chk b.nm ≠ 0 from h0)]]
    exact open_name (by simpa using h0) CK
end
end Go.Proofs.Ytigalcmhongleaa.GF
