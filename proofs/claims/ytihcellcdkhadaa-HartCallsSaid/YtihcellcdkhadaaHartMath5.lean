/-
  A call and a return in a memory of the laws. Plain mathematics; nothing here is a statement of the seed.
-/
import Derived.Test.YtihcellcdkhadaaHartMath3
set_option linter.unusedSimpArgs false
set_option linter.unusedVariables false
namespace Go.Proofs.Ytihcellcdkhadaa.HM
open Go.RowKit PM MM IM
set_option maxRecDepth 20000
/-- a stack of k words -/
def calL (k : Nat) : List Int := (List.range k).map fun (j : Nat) => 90 + (j : Int)
theorem calL_len (k : Nat) : (calL k).length = k := by simp [calL]
theorem calL_succ (k : Nat) : calL (k + 1) = calL k ++ [90 + (k : Int)] := by simp [calL, List.range_succ]
theorem calL_ok {k : Nat} (hk : k ≤ 18) : ∀ x ∈ calL k, B32 x := by
  intro x hx
  simp only [calL, List.mem_map, List.mem_range] at hx
  obtain ⟨j, hj, rfl⟩ := hx
  unfold B32
  omega
theorem ca_1 {R : Nat → Int} {k : Nat} : stepR ⟨80, R, calL k, 0, 0, 0⟩ (landM [2281701457, 2415919104] [] 0 false) 0 = if 16 ≤ k then ⟨⟨80, R, calL k, 6, 0, 0⟩, (landM [2281701457, 2415919104] [] 0 false), false, false, 0, 0⟩ else ⟨⟨81, R, calL k ++ [81], 0, 0, 0⟩, (landM [2281701457, 2415919104] [] 0 false), false, false, 0, 0⟩ := by
  obtain ⟨h1, _, h2, _⟩ := f2 2281701457 2415919104
  obtain ⟨k1, k2, k3, _⟩ := ca_word
  rw [step_at (h := ⟨80, R, calL k, 0, 0, 0⟩) rfl h1 h2 k1, k2, k3]
  show callR ⟨80, R, calL k, 0, 0, 0⟩ (landM [2281701457, 2415919104] [] 0 false) 81 = _
  unfold callR
  simp only [calL_len]
  rfl
theorem ca_2 {R : Nat → Int} {k : Nat} : stepR ⟨81, R, calL k ++ [81], 0, 0, 0⟩ (landM [2281701457, 2415919104] [] 0 false) 0 = ⟨⟨81, R, calL k, 0, 0, 0⟩, (landM [2281701457, 2415919104] [] 0 false), false, false, 0, 0⟩ := by
  obtain ⟨_, h1, _, h2⟩ := f2 2281701457 2415919104
  obtain ⟨_, _, _, k1, k2⟩ := ca_word
  rw [step_at (h := ⟨81, R, calL k ++ [81], 0, 0, 0⟩) rfl h1 h2 k1, k2]
  show (if 0 < (calL k ++ [81]).length then backR ⟨81, R, calL k ++ [81], 0, 0, 0⟩ (landM [2281701457, 2415919104] [] 0 false) else _) = _
  have hl : (calL k ++ [81]).length = k + 1 := by simp [calL_len]
  rw [if_pos (by omega)]
  unfold backR
  have e1 : (calL k ++ [(81 : Int)]).getD ((calL k ++ [(81 : Int)]).length - 1) 0 = 81 := by
    rw [hl, Nat.add_sub_cancel, List.getD_eq_getElem?_getD, List.getElem?_append_right (by rw [calL_len]; omega), calL_len]
    simp
  have e2 : (calL k ++ [(81 : Int)]).take ((calL k ++ [(81 : Int)]).length - 1) = calL k := by
    rw [hl, Nat.add_sub_cancel, List.take_append_of_le_length (by rw [calL_len]; omega), List.take_of_length_le (by rw [calL_len]; omega)]
  simp only [e1, e2]
theorem ca_wok : WOk (landM [2281701457, 2415919104] [] 0 false) := land_wok (by simp only [List.mem_cons, List.not_mem_nil, or_false]; rintro x (rfl | rfl) <;> (unfold B32; omega)) (by intro x hx; cases hx) b32_zero false
theorem ca_hok {pc : Int} {R : Nat → Int} {k : Nat} (hk : k ≤ 18) (hp : 0 ≤ pc ∧ pc ≤ 100) (hR : ∀ i, B32 (R i)) : HOk ⟨pc, R, calL k, 0, 0, 0⟩ := ⟨show B32 pc from ⟨hp.1, by omega⟩, hR, calL_ok hk, b32_zero⟩
theorem ca_hok2 {pc : Int} {R : Nat → Int} {k : Nat} (hk : k ≤ 18) (hp : 0 ≤ pc ∧ pc ≤ 100) (hR : ∀ i, B32 (R i)) : HOk ⟨pc, R, calL k ++ [81], 0, 0, 0⟩ := ⟨show B32 pc from ⟨hp.1, by omega⟩, hR, fun x hx => by
  rcases List.mem_append.1 hx with h | h
  · exact calL_ok hk x h
  · rw [List.mem_singleton] at h
    rw [h]
    unfold B32
    omega, b32_zero⟩
end Go.Proofs.Ytihcellcdkhadaa.HM
