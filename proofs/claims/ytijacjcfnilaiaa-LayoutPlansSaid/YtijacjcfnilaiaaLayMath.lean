/-
  Layer 12 as numbers and lists alone: pages, plans, spots, words. Nothing here is a statement of the seed, no function of the program is named.
-/
import Derived.Lib.Hide
set_option linter.unusedVariables false
namespace Go.Proofs.Ytijacjcfnilaiaa.YM
/-- as few pages as hold so many words -/
def pgs (n : Nat) : Nat := (n + 15) / 16
theorem pgs_min (n : Nat) : n / 16 + min 1 (n % 16) = pgs n := by
  unfold pgs
  by_cases h : n % 16 = 0
  · rw [h]; simp; omega
  · rw [Nat.min_eq_left (by omega)]; omega
theorem pgs_hold (n : Nat) : n ≤ 16 * pgs n ∧ 16 * pgs n < n + 16 := by unfold pgs; omega
theorem pgs_tight (n : Nat) : pgs n = 0 ∨ 16 * (pgs n - 1) < n := by unfold pgs; omega
theorem pgs_zero (n : Nat) : pgs n = 0 ↔ n = 0 := by unfold pgs; omega
theorem pgs_le {n k : Nat} (h : n ≤ 16 * k) : pgs n ≤ k := by unfold pgs; omega
/-- a plan's pages -/
def pgP (c d : Int) : Int := if c < 0 ∨ d < 0 ∨ 256 < c ∨ 256 < d then 0 else c + d
theorem pgP_bd (c d : Int) : 0 ≤ pgP c d ∧ pgP c d ≤ 512 := by unfold pgP; split <;> omega
theorem pgP_of {c d : Int} (h : ¬ (c < 0 ∨ d < 0 ∨ 256 < c ∨ 256 < d)) : pgP c d = c + d := if_neg h
theorem pgP_small {c d : Nat} (hc : c ≤ 256) (hd : d ≤ 256) : pgP c d = (c + d : Nat) := by rw [pgP_of (by omega)]; omega
theorem pgP_zero {c d : Int} (h : pgP c d ≠ 0) : 0 ≤ c ∧ 0 ≤ d ∧ c ≤ 256 ∧ d ≤ 256 ∧ pgP c d = c + d := by
  unfold pgP at h ⊢
  by_cases k : c < 0 ∨ d < 0 ∨ 256 < c ∨ 256 < d
  · rw [if_pos k] at h; exact absurd rfl h
  · rw [if_neg k]; omega
/-- where a plan at a page has its words: code, data, or why not -/
def atP (c d f : Int) : Int × Int × Int :=
  if pgP c d = 0 then (0, 0, 2)
  else if f < 0 ∨ 256 < f + pgP c d then (0, 0, 11)
  else (80 + 16 * f, 80 + 16 * (f + c), 0)
theorem atP_ok {c d f : Int} : (atP c d f).2.2 = 0 ↔ pgP c d ≠ 0 ∧ 0 ≤ f ∧ f + pgP c d ≤ 256 := by
  unfold atP
  by_cases h : pgP c d = 0
  · rw [if_pos h]; simp [h]
  · rw [if_neg h]
    by_cases k : f < 0 ∨ 256 < f + pgP c d
    · rw [if_pos k]; simp; omega
    · rw [if_neg k]; simp [h]; omega
theorem atP_val {c d f : Int} (h : pgP c d ≠ 0) (h0 : 0 ≤ f) (h1 : f + pgP c d ≤ 256) : atP c d f = (80 + 16 * f, 80 + 16 * (f + c), 0) := by
  unfold atP; rw [if_neg h, if_neg (by omega)]
/-- the words of a place fit in 32 bits -/
theorem atP_bd (c d f : Int) : 0 ≤ (atP c d f).1 ∧ (atP c d f).1 ≤ 4176 ∧ 0 ≤ (atP c d f).2.1 ∧ (atP c d f).2.1 ≤ 4176 := by
  unfold atP
  split
  · simp
  · split
    · simp
    · next h k =>
      obtain ⟨a1, a2, a3, a4, a5⟩ := pgP_zero h
      simp only
      omega
/-- the i-th of a module's words: of code or of data, which, and whether it is one -/
def spV (cn dn : Nat) (i : Int) : Bool × Int × Bool :=
  if 0 ≤ i ∧ i < cn then (true, i, true)
  else if 16 * (pgs cn : Int) ≤ i ∧ i - 16 * (pgs cn : Int) < dn then (false, i - 16 * (pgs cn : Int), true)
  else (false, 0, false)
theorem spV_code {cn dn : Nat} {i : Int} (h : 0 ≤ i ∧ i < cn) : spV cn dn i = (true, i, true) := if_pos h
theorem spV_data {cn dn : Nat} {i : Int} (h : 16 * (pgs cn : Int) ≤ i) (h2 : i - 16 * (pgs cn : Int) < dn) : spV cn dn i = (false, i - 16 * (pgs cn : Int), true) := by
  unfold spV
  have := (pgs_hold cn).1
  rw [if_neg (by omega), if_pos ⟨h, h2⟩]
theorem spV_none {cn dn : Nat} {i : Int} (h : ¬ (0 ≤ i ∧ i < cn)) (h2 : ¬ (16 * (pgs cn : Int) ≤ i ∧ i - 16 * (pgs cn : Int) < dn)) : spV cn dn i = (false, 0, false) := by
  unfold spV
  rw [if_neg h, if_neg h2]
/-- the i-th word -/
def rawV (code data : List Nat) (i : Int) : Nat :=
  if 0 ≤ i ∧ i < code.length then code.getD i.toNat 0
  else if 16 * (pgs code.length : Int) ≤ i ∧ i - 16 * (pgs code.length : Int) < data.length then data.getD (i - 16 * (pgs code.length : Int)).toNat 0
  else 0
theorem rawV_code {code data : List Nat} {i : Nat} (h : i < code.length) : rawV code data i = code.getD i 0 := by
  unfold rawV
  rw [if_pos (by omega)]
  simp
theorem rawV_data {code data : List Nat} {i j : Nat} (h : i = 16 * pgs code.length + j) (h2 : j < data.length) : rawV code data i = data.getD j 0 := by
  unfold rawV
  have := (pgs_hold code.length).1
  rw [if_neg (by omega), if_pos (by omega)]
  congr 1
  omega
theorem rawV_none {code data : List Nat} {i : Int} (h : ¬ (0 ≤ i ∧ i < code.length)) (h2 : ¬ (16 * (pgs code.length : Int) ≤ i ∧ i - 16 * (pgs code.length : Int) < data.length)) : rawV code data i = 0 := by
  unfold rawV
  rw [if_neg h, if_neg h2]
/-- how many words of code, of data, stand ahead of the k-th -/
def nC (cn k : Nat) : Nat := min k cn
def nD (cn dn k : Nat) : Nat := min (k - 16 * pgs cn) dn
theorem nC_zero (cn : Nat) : nC cn 0 = 0 := by simp [nC]
theorem nD_zero (cn dn : Nat) : nD cn dn 0 = 0 := by simp [nD]
/-- a round at a word of code: the number it tells is that of the words of code so far -/
theorem round_code {cn dn k : Nat} (h : k < cn) : nC cn k = k ∧ nC cn (k + 1) = k + 1 ∧ nD cn dn k = 0 ∧ nD cn dn (k + 1) = 0 := by
  have := (pgs_hold cn).1
  unfold nC nD
  omega
theorem round_data {cn dn k : Nat} (h : 16 * pgs cn ≤ k) (h2 : k - 16 * pgs cn < dn) : nD cn dn k = k - 16 * pgs cn ∧ nD cn dn (k + 1) = nD cn dn k + 1 ∧ nC cn (k + 1) = nC cn k := by
  have := (pgs_hold cn).1
  unfold nC nD
  omega
theorem round_none {cn dn k : Nat} (h : ¬ k < cn) (h2 : ¬ (16 * pgs cn ≤ k ∧ k - 16 * pgs cn < dn)) : nC cn (k + 1) = nC cn k ∧ nD cn dn (k + 1) = nD cn dn k := by
  unfold nC nD
  omega
theorem rounds_end (cn dn : Nat) : nC cn (16 * (pgs cn + pgs dn)) = cn ∧ nD cn dn (16 * (pgs cn + pgs dn)) = dn := by
  have h1 := (pgs_hold cn).1
  have h2 := (pgs_hold dn).1
  unfold nC nD
  omega
theorem beyond (cn dn : Nat) : spV cn dn ((16 * (pgs cn + pgs dn) : Nat) : Int) = (false, 0, false) := by
  have h1 := (pgs_hold cn).1
  have h2 := (pgs_hold dn).1
  exact spV_none (by omega) (by omega)
end Go.Proofs.Ytijacjcfnilaiaa.YM
