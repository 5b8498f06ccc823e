/-
  Steps at words that the laws name. Plain mathematics; nothing here is a statement of the seed.
-/
import Derived.Test.YtihcellcdkhadaaGreatHartLand
set_option linter.unusedSimpArgs false
set_option linter.unusedVariables false
namespace Go.Proofs.YtihcellcdkhadaaGreat.HM
open Go.RowKit PM MM IM
set_option maxRecDepth 20000
theorem f3 (x y z : Int) : fetchB (landM [x, y, z] [] 0 false) 80 0 = true ∧ fetchB (landM [x, y, z] [] 0 false) 81 0 = true ∧ fetchB (landM [x, y, z] [] 0 false) 82 0 = true ∧ fetchW (landM [x, y, z] [] 0 false) 80 0 = x ∧ fetchW (landM [x, y, z] [] 0 false) 81 0 = y ∧ fetchW (landM [x, y, z] [] 0 false) 82 0 = z := ⟨rfl, rfl, rfl, rfl, rfl, rfl⟩
theorem f2 (x y : Int) : fetchB (landM [x, y] [] 0 false) 80 0 = true ∧ fetchB (landM [x, y] [] 0 false) 81 0 = true ∧ fetchW (landM [x, y] [] 0 false) 80 0 = x ∧ fetchW (landM [x, y] [] 0 false) 81 0 = y := ⟨rfl, rfl, rfl, rfl⟩
/-- a step at a word that is fetched -/
theorem step_at {h : Ht} {M : Mm} {ep x : Int} (hw : h.why = 0) (h1 : fetchB M h.pc h.ep = true) (h2 : fetchW M h.pc h.ep = x) (h3 : hasB x = true) : stepR h M ep = doR h M (fetchO M h.pc h.ep) ep (pO x) (pD x) (pA x) (pB x) (pM x) := by
  unfold stepR
  rw [if_pos hw, h1, if_pos rfl, h2, h3, if_pos rfl]
/-- registers of which the first three are given -/
def regs (r0 r1 r2 r3 r4 r5 r6 r7 : Int) : Nat → Int := fun k => [r0, r1, r2, r3, r4, r5, r6, r7].getD k 0
theorem regs_ok {r0 r1 r2 r3 r4 r5 r6 r7 : Int} (b0 : B32 r0) (b1 : B32 r1) (b2 : B32 r2) (b3 : B32 r3) (b4 : B32 r4) (b5 : B32 r5) (b6 : B32 r6) (b7 : B32 r7) (k : Nat) : B32 (regs r0 r1 r2 r3 r4 r5 r6 r7 k) :=
  getD_ok (by simp only [List.mem_cons, List.not_mem_nil, or_false]; rintro x (rfl | rfl | rfl | rfl | rfl | rfl | rfl | rfl) <;> assumption) k
/-- the branches' words -/
theorem br_word {m : Int} (h : 0 ≤ m ∧ m < 20) : bits .or .u32 2034237440 m = 2034237440 + m ∧ bits .or .u32 2168455168 m = 2168455168 + m ∧ hasB (2034237440 + m) = true ∧ pO (2034237440 + m) = 15 ∧ pD (2034237440 + m) = 1 ∧ pA (2034237440 + m) = 2 ∧ pM (2034237440 + m) = m ∧
    hasB (2168455168 + m) = true ∧ pO (2168455168 + m) = 16 ∧ pD (2168455168 + m) = 1 ∧ pA (2168455168 + m) = 2 ∧ pM (2168455168 + m) = m := by
  rcases (show m = 0 ∨ m = 1 ∨ m = 2 ∨ m = 3 ∨ m = 4 ∨ m = 5 ∨ m = 6 ∨ m = 7 ∨ m = 8 ∨ m = 9 ∨ m = 10 ∨ m = 11 ∨ m = 12 ∨ m = 13 ∨ m = 14 ∨ m = 15 ∨ m = 16 ∨ m = 17 ∨ m = 18 ∨ m = 19 by omega) with rfl | rfl | rfl | rfl | rfl | rfl | rfl | rfl | rfl | rfl | rfl | rfl | rfl | rfl | rfl | rfl | rfl | rfl | rfl | rfl <;> exact ⟨rfl, rfl, rfl, rfl, rfl, rfl, rfl, rfl, rfl, rfl, rfl, rfl⟩
theorem br_1 {a b m : Int} (hm : 0 ≤ m ∧ m < 20) : stepR ⟨80, regs 0 a b 0 0 0 0 0, [], 0, 0, 0⟩ (landM [2034237440 + m, 2168455168 + m] [] 0 false) 0 = ⟨⟨if a = b then 81 + m else 81, regs 0 a b 0 0 0 0 0, [], 0, 0, 0⟩, landM [2034237440 + m, 2168455168 + m] [] 0 false, false, false, 0, 0⟩ := by
  obtain ⟨h1, _, h2, _⟩ := f2 (2034237440 + m) (2168455168 + m)
  obtain ⟨_, _, k1, k2, k3, k4, k5, _⟩ := br_word hm
  rw [step_at (h := ⟨80, regs 0 a b 0 0 0 0 0, [], 0, 0, 0⟩) rfl h1 h2 k1, k2, k3, k4, k5]
  show Res.mk ⟨if a = b then (80 + 1 + m) % 4294967296 else 81, _, _, _, _, _⟩ _ _ _ _ _ = _
  rw [show (80 + 1 + m) % 4294967296 = 81 + m by omega]
theorem br_2 {a b m : Int} (hm : 0 ≤ m ∧ m < 20) : stepR ⟨81, regs 0 a b 0 0 0 0 0, [], 0, 0, 0⟩ (landM [2034237440 + m, 2168455168 + m] [] 0 false) 0 = ⟨⟨if a = b then 82 else 82 + m, regs 0 a b 0 0 0 0 0, [], 0, 0, 0⟩, landM [2034237440 + m, 2168455168 + m] [] 0 false, false, false, 0, 0⟩ := by
  obtain ⟨_, h1, _, h2⟩ := f2 (2034237440 + m) (2168455168 + m)
  obtain ⟨_, _, _, _, _, _, _, k1, k2, k3, k4, k5⟩ := br_word hm
  rw [step_at (h := ⟨81, regs 0 a b 0 0 0 0 0, [], 0, 0, 0⟩) rfl h1 h2 k1, k2, k3, k4, k5]
  show Res.mk ⟨if a = b then 82 else (81 + 1 + m) % 4294967296, _, _, _, _, _⟩ _ _ _ _ _ = _
  rw [show (81 + 1 + m) % 4294967296 = 82 + m by omega]
/-- the sums' words -/
abbrev sw1 (k : Int) : Int := 404750338 + k * 16777216
abbrev sw2 (k : Int) : Int := 536870914 + k * 18874368
theorem su_word {k : Int} (h : 3 ≤ k ∧ k ≤ 7) : hasB (sw1 k) = true ∧ pO (sw1 k) = 3 ∧ pD (sw1 k) = k ∧ pA (sw1 k) = 1 ∧ pB (sw1 k) = 2 ∧ hasB (sw2 k) = true ∧ pO (sw2 k) = 4 ∧ pD (sw2 k) = k ∧ pA (sw2 k) = k ∧ pB (sw2 k) = 2 ∧ hasB 402653184 = true ∧ pO 402653184 = 3 ∧ pD 402653184 = 0 ∧ pA 402653184 = 0 ∧ pB 402653184 = 0 := by
  rcases (show k = 3 ∨ k = 4 ∨ k = 5 ∨ k = 6 ∨ k = 7 by omega) with rfl | rfl | rfl | rfl | rfl <;> exact ⟨rfl, rfl, rfl, rfl, rfl, rfl, rfl, rfl, rfl, rfl, rfl, rfl, rfl, rfl, rfl⟩
/-- the calls' words -/
theorem ca_word : hasB 2281701457 = true ∧ pO 2281701457 = 17 ∧ pM 2281701457 = 81 ∧ hasB 2415919104 = true ∧ pO 2415919104 = 18 := ⟨rfl, rfl, rfl, rfl, rfl⟩
end Go.Proofs.YtihcellcdkhadaaGreat.HM
