/-
  Sums in a memory of the laws: what add makes, sub takes away. Plain mathematics; nothing here is a statement of the seed.
-/
import Derived.Test.YtihcellcdkhadaaHartMath3
set_option linter.unusedSimpArgs false
set_option linter.unusedVariables false
namespace Go.Proofs.Ytihcellcdkhadaa.HM
open Go.RowKit PM MM IM
set_option maxRecDepth 20000
theorem eight_case {P : Nat → Prop} (h0 : P 0) (h1 : P 1) (h2 : P 2) (h3 : P 3) (h4 : P 4) (h5 : P 5) (h6 : P 6) (h7 : P 7) (hr : ∀ i, P (i + 8)) : ∀ i, P i
  | 0 => h0
  | 1 => h1
  | 2 => h2
  | 3 => h3
  | 4 => h4
  | 5 => h5
  | 6 => h6
  | 7 => h7
  | i + 8 => hr i
theorem put_regs3 (r0 r1 r2 r3 r4 r5 r6 r7 x : Int) : putR (regs r0 r1 r2 r3 r4 r5 r6 r7) 3 x = regs r0 r1 r2 x r4 r5 r6 r7 :=
  funext (eight_case (P := fun i => putR (regs r0 r1 r2 r3 r4 r5 r6 r7) 3 x i = regs r0 r1 r2 x r4 r5 r6 r7 i) rfl rfl rfl rfl rfl rfl rfl rfl (fun _ => rfl))
theorem su1_3 {a b x y : Int} (hx : x = sw1 3) : stepR ⟨80, regs 0 a b 0 0 0 0 0, [], 0, 0, 0⟩ (landM [x, y, 402653184] [] 0 false) 0 = ⟨⟨81, regs 0 a b ((a + b) % 4294967296) 0 0 0 0, [], 0, 0, 0⟩, landM [x, y, 402653184] [] 0 false, false, false, 0, 0⟩ := by
  obtain ⟨h1, _, _, h2, _⟩ := f3 x y 402653184
  obtain ⟨k1, k2, k3, k4, k5, _⟩ := su_word (k := 3) (by omega)
  rw [step_at (h := ⟨80, regs 0 a b 0 0 0 0 0, [], 0, 0, 0⟩) rfl h1 (h2.trans hx) k1, k2, k3, k4, k5]
  show Res.mk ⟨81, putR (regs 0 a b 0 0 0 0 0) 3 ((a + b) % 4294967296), _, _, _, _⟩ _ _ _ _ _ = _
  rw [put_regs3]
theorem su2_3 {a b x y : Int} (ha : B32 a) (hy : y = sw2 3) : stepR ⟨81, regs 0 a b ((a + b) % 4294967296) 0 0 0 0, [], 0, 0, 0⟩ (landM [x, y, 402653184] [] 0 false) 0 = ⟨⟨82, regs 0 a b a 0 0 0 0, [], 0, 0, 0⟩, landM [x, y, 402653184] [] 0 false, false, false, 0, 0⟩ := by
  obtain ⟨_, h1, _, _, h2, _⟩ := f3 x y 402653184
  obtain ⟨_, _, _, _, _, k1, k2, k3, k4, k5, _⟩ := su_word (k := 3) (by omega)
  rw [step_at (h := ⟨81, regs 0 a b ((a + b) % 4294967296) 0 0 0 0, [], 0, 0, 0⟩) rfl h1 (h2.trans hy) k1, k2, k3, k4, k5]
  show Res.mk ⟨82, putR (regs 0 a b ((a + b) % 4294967296) 0 0 0 0) 3 (((a + b) % 4294967296 - b) % 4294967296), _, _, _, _⟩ _ _ _ _ _ = _
  rw [put_regs3, show ((a + b) % 4294967296 - b) % 4294967296 = a by unfold B32 at ha; omega]
theorem su3_3 {a b x y : Int} : stepR ⟨82, regs 0 a b a 0 0 0 0, [], 0, 0, 0⟩ (landM [x, y, 402653184] [] 0 false) 0 = ⟨⟨83, regs 0 a b a 0 0 0 0, [], 0, 0, 0⟩, landM [x, y, 402653184] [] 0 false, false, false, 0, 0⟩ := by
  obtain ⟨_, _, h1, _, _, h2⟩ := f3 x y 402653184
  obtain ⟨_, _, _, _, _, _, _, _, _, _, k1, k2, k3, k4, k5⟩ := su_word (k := 3) (by omega)
  rw [step_at (h := ⟨82, regs 0 a b a 0 0 0 0, [], 0, 0, 0⟩) rfl h1 h2 k1, k2, k3, k4, k5]
  rfl
theorem put_regs4 (r0 r1 r2 r3 r4 r5 r6 r7 x : Int) : putR (regs r0 r1 r2 r3 r4 r5 r6 r7) 4 x = regs r0 r1 r2 r3 x r5 r6 r7 :=
  funext (eight_case (P := fun i => putR (regs r0 r1 r2 r3 r4 r5 r6 r7) 4 x i = regs r0 r1 r2 r3 x r5 r6 r7 i) rfl rfl rfl rfl rfl rfl rfl rfl (fun _ => rfl))
theorem su1_4 {a b x y : Int} (hx : x = sw1 4) : stepR ⟨80, regs 0 a b 0 0 0 0 0, [], 0, 0, 0⟩ (landM [x, y, 402653184] [] 0 false) 0 = ⟨⟨81, regs 0 a b 0 ((a + b) % 4294967296) 0 0 0, [], 0, 0, 0⟩, landM [x, y, 402653184] [] 0 false, false, false, 0, 0⟩ := by
  obtain ⟨h1, _, _, h2, _⟩ := f3 x y 402653184
  obtain ⟨k1, k2, k3, k4, k5, _⟩ := su_word (k := 4) (by omega)
  rw [step_at (h := ⟨80, regs 0 a b 0 0 0 0 0, [], 0, 0, 0⟩) rfl h1 (h2.trans hx) k1, k2, k3, k4, k5]
  show Res.mk ⟨81, putR (regs 0 a b 0 0 0 0 0) 4 ((a + b) % 4294967296), _, _, _, _⟩ _ _ _ _ _ = _
  rw [put_regs4]
theorem su2_4 {a b x y : Int} (ha : B32 a) (hy : y = sw2 4) : stepR ⟨81, regs 0 a b 0 ((a + b) % 4294967296) 0 0 0, [], 0, 0, 0⟩ (landM [x, y, 402653184] [] 0 false) 0 = ⟨⟨82, regs 0 a b 0 a 0 0 0, [], 0, 0, 0⟩, landM [x, y, 402653184] [] 0 false, false, false, 0, 0⟩ := by
  obtain ⟨_, h1, _, _, h2, _⟩ := f3 x y 402653184
  obtain ⟨_, _, _, _, _, k1, k2, k3, k4, k5, _⟩ := su_word (k := 4) (by omega)
  rw [step_at (h := ⟨81, regs 0 a b 0 ((a + b) % 4294967296) 0 0 0, [], 0, 0, 0⟩) rfl h1 (h2.trans hy) k1, k2, k3, k4, k5]
  show Res.mk ⟨82, putR (regs 0 a b 0 ((a + b) % 4294967296) 0 0 0) 4 (((a + b) % 4294967296 - b) % 4294967296), _, _, _, _⟩ _ _ _ _ _ = _
  rw [put_regs4, show ((a + b) % 4294967296 - b) % 4294967296 = a by unfold B32 at ha; omega]
theorem su3_4 {a b x y : Int} : stepR ⟨82, regs 0 a b 0 a 0 0 0, [], 0, 0, 0⟩ (landM [x, y, 402653184] [] 0 false) 0 = ⟨⟨83, regs 0 a b 0 a 0 0 0, [], 0, 0, 0⟩, landM [x, y, 402653184] [] 0 false, false, false, 0, 0⟩ := by
  obtain ⟨_, _, h1, _, _, h2⟩ := f3 x y 402653184
  obtain ⟨_, _, _, _, _, _, _, _, _, _, k1, k2, k3, k4, k5⟩ := su_word (k := 4) (by omega)
  rw [step_at (h := ⟨82, regs 0 a b 0 a 0 0 0, [], 0, 0, 0⟩) rfl h1 h2 k1, k2, k3, k4, k5]
  rfl
theorem put_regs5 (r0 r1 r2 r3 r4 r5 r6 r7 x : Int) : putR (regs r0 r1 r2 r3 r4 r5 r6 r7) 5 x = regs r0 r1 r2 r3 r4 x r6 r7 :=
  funext (eight_case (P := fun i => putR (regs r0 r1 r2 r3 r4 r5 r6 r7) 5 x i = regs r0 r1 r2 r3 r4 x r6 r7 i) rfl rfl rfl rfl rfl rfl rfl rfl (fun _ => rfl))
theorem su1_5 {a b x y : Int} (hx : x = sw1 5) : stepR ⟨80, regs 0 a b 0 0 0 0 0, [], 0, 0, 0⟩ (landM [x, y, 402653184] [] 0 false) 0 = ⟨⟨81, regs 0 a b 0 0 ((a + b) % 4294967296) 0 0, [], 0, 0, 0⟩, landM [x, y, 402653184] [] 0 false, false, false, 0, 0⟩ := by
  obtain ⟨h1, _, _, h2, _⟩ := f3 x y 402653184
  obtain ⟨k1, k2, k3, k4, k5, _⟩ := su_word (k := 5) (by omega)
  rw [step_at (h := ⟨80, regs 0 a b 0 0 0 0 0, [], 0, 0, 0⟩) rfl h1 (h2.trans hx) k1, k2, k3, k4, k5]
  show Res.mk ⟨81, putR (regs 0 a b 0 0 0 0 0) 5 ((a + b) % 4294967296), _, _, _, _⟩ _ _ _ _ _ = _
  rw [put_regs5]
theorem su2_5 {a b x y : Int} (ha : B32 a) (hy : y = sw2 5) : stepR ⟨81, regs 0 a b 0 0 ((a + b) % 4294967296) 0 0, [], 0, 0, 0⟩ (landM [x, y, 402653184] [] 0 false) 0 = ⟨⟨82, regs 0 a b 0 0 a 0 0, [], 0, 0, 0⟩, landM [x, y, 402653184] [] 0 false, false, false, 0, 0⟩ := by
  obtain ⟨_, h1, _, _, h2, _⟩ := f3 x y 402653184
  obtain ⟨_, _, _, _, _, k1, k2, k3, k4, k5, _⟩ := su_word (k := 5) (by omega)
  rw [step_at (h := ⟨81, regs 0 a b 0 0 ((a + b) % 4294967296) 0 0, [], 0, 0, 0⟩) rfl h1 (h2.trans hy) k1, k2, k3, k4, k5]
  show Res.mk ⟨82, putR (regs 0 a b 0 0 ((a + b) % 4294967296) 0 0) 5 (((a + b) % 4294967296 - b) % 4294967296), _, _, _, _⟩ _ _ _ _ _ = _
  rw [put_regs5, show ((a + b) % 4294967296 - b) % 4294967296 = a by unfold B32 at ha; omega]
theorem su3_5 {a b x y : Int} : stepR ⟨82, regs 0 a b 0 0 a 0 0, [], 0, 0, 0⟩ (landM [x, y, 402653184] [] 0 false) 0 = ⟨⟨83, regs 0 a b 0 0 a 0 0, [], 0, 0, 0⟩, landM [x, y, 402653184] [] 0 false, false, false, 0, 0⟩ := by
  obtain ⟨_, _, h1, _, _, h2⟩ := f3 x y 402653184
  obtain ⟨_, _, _, _, _, _, _, _, _, _, k1, k2, k3, k4, k5⟩ := su_word (k := 5) (by omega)
  rw [step_at (h := ⟨82, regs 0 a b 0 0 a 0 0, [], 0, 0, 0⟩) rfl h1 h2 k1, k2, k3, k4, k5]
  rfl
theorem put_regs6 (r0 r1 r2 r3 r4 r5 r6 r7 x : Int) : putR (regs r0 r1 r2 r3 r4 r5 r6 r7) 6 x = regs r0 r1 r2 r3 r4 r5 x r7 :=
  funext (eight_case (P := fun i => putR (regs r0 r1 r2 r3 r4 r5 r6 r7) 6 x i = regs r0 r1 r2 r3 r4 r5 x r7 i) rfl rfl rfl rfl rfl rfl rfl rfl (fun _ => rfl))
theorem su1_6 {a b x y : Int} (hx : x = sw1 6) : stepR ⟨80, regs 0 a b 0 0 0 0 0, [], 0, 0, 0⟩ (landM [x, y, 402653184] [] 0 false) 0 = ⟨⟨81, regs 0 a b 0 0 0 ((a + b) % 4294967296) 0, [], 0, 0, 0⟩, landM [x, y, 402653184] [] 0 false, false, false, 0, 0⟩ := by
  obtain ⟨h1, _, _, h2, _⟩ := f3 x y 402653184
  obtain ⟨k1, k2, k3, k4, k5, _⟩ := su_word (k := 6) (by omega)
  rw [step_at (h := ⟨80, regs 0 a b 0 0 0 0 0, [], 0, 0, 0⟩) rfl h1 (h2.trans hx) k1, k2, k3, k4, k5]
  show Res.mk ⟨81, putR (regs 0 a b 0 0 0 0 0) 6 ((a + b) % 4294967296), _, _, _, _⟩ _ _ _ _ _ = _
  rw [put_regs6]
theorem su2_6 {a b x y : Int} (ha : B32 a) (hy : y = sw2 6) : stepR ⟨81, regs 0 a b 0 0 0 ((a + b) % 4294967296) 0, [], 0, 0, 0⟩ (landM [x, y, 402653184] [] 0 false) 0 = ⟨⟨82, regs 0 a b 0 0 0 a 0, [], 0, 0, 0⟩, landM [x, y, 402653184] [] 0 false, false, false, 0, 0⟩ := by
  obtain ⟨_, h1, _, _, h2, _⟩ := f3 x y 402653184
  obtain ⟨_, _, _, _, _, k1, k2, k3, k4, k5, _⟩ := su_word (k := 6) (by omega)
  rw [step_at (h := ⟨81, regs 0 a b 0 0 0 ((a + b) % 4294967296) 0, [], 0, 0, 0⟩) rfl h1 (h2.trans hy) k1, k2, k3, k4, k5]
  show Res.mk ⟨82, putR (regs 0 a b 0 0 0 ((a + b) % 4294967296) 0) 6 (((a + b) % 4294967296 - b) % 4294967296), _, _, _, _⟩ _ _ _ _ _ = _
  rw [put_regs6, show ((a + b) % 4294967296 - b) % 4294967296 = a by unfold B32 at ha; omega]
theorem su3_6 {a b x y : Int} : stepR ⟨82, regs 0 a b 0 0 0 a 0, [], 0, 0, 0⟩ (landM [x, y, 402653184] [] 0 false) 0 = ⟨⟨83, regs 0 a b 0 0 0 a 0, [], 0, 0, 0⟩, landM [x, y, 402653184] [] 0 false, false, false, 0, 0⟩ := by
  obtain ⟨_, _, h1, _, _, h2⟩ := f3 x y 402653184
  obtain ⟨_, _, _, _, _, _, _, _, _, _, k1, k2, k3, k4, k5⟩ := su_word (k := 6) (by omega)
  rw [step_at (h := ⟨82, regs 0 a b 0 0 0 a 0, [], 0, 0, 0⟩) rfl h1 h2 k1, k2, k3, k4, k5]
  rfl
theorem put_regs7 (r0 r1 r2 r3 r4 r5 r6 r7 x : Int) : putR (regs r0 r1 r2 r3 r4 r5 r6 r7) 7 x = regs r0 r1 r2 r3 r4 r5 r6 x :=
  funext (eight_case (P := fun i => putR (regs r0 r1 r2 r3 r4 r5 r6 r7) 7 x i = regs r0 r1 r2 r3 r4 r5 r6 x i) rfl rfl rfl rfl rfl rfl rfl rfl (fun _ => rfl))
theorem su1_7 {a b x y : Int} (hx : x = sw1 7) : stepR ⟨80, regs 0 a b 0 0 0 0 0, [], 0, 0, 0⟩ (landM [x, y, 402653184] [] 0 false) 0 = ⟨⟨81, regs 0 a b 0 0 0 0 ((a + b) % 4294967296), [], 0, 0, 0⟩, landM [x, y, 402653184] [] 0 false, false, false, 0, 0⟩ := by
  obtain ⟨h1, _, _, h2, _⟩ := f3 x y 402653184
  obtain ⟨k1, k2, k3, k4, k5, _⟩ := su_word (k := 7) (by omega)
  rw [step_at (h := ⟨80, regs 0 a b 0 0 0 0 0, [], 0, 0, 0⟩) rfl h1 (h2.trans hx) k1, k2, k3, k4, k5]
  show Res.mk ⟨81, putR (regs 0 a b 0 0 0 0 0) 7 ((a + b) % 4294967296), _, _, _, _⟩ _ _ _ _ _ = _
  rw [put_regs7]
theorem su2_7 {a b x y : Int} (ha : B32 a) (hy : y = sw2 7) : stepR ⟨81, regs 0 a b 0 0 0 0 ((a + b) % 4294967296), [], 0, 0, 0⟩ (landM [x, y, 402653184] [] 0 false) 0 = ⟨⟨82, regs 0 a b 0 0 0 0 a, [], 0, 0, 0⟩, landM [x, y, 402653184] [] 0 false, false, false, 0, 0⟩ := by
  obtain ⟨_, h1, _, _, h2, _⟩ := f3 x y 402653184
  obtain ⟨_, _, _, _, _, k1, k2, k3, k4, k5, _⟩ := su_word (k := 7) (by omega)
  rw [step_at (h := ⟨81, regs 0 a b 0 0 0 0 ((a + b) % 4294967296), [], 0, 0, 0⟩) rfl h1 (h2.trans hy) k1, k2, k3, k4, k5]
  show Res.mk ⟨82, putR (regs 0 a b 0 0 0 0 ((a + b) % 4294967296)) 7 (((a + b) % 4294967296 - b) % 4294967296), _, _, _, _⟩ _ _ _ _ _ = _
  rw [put_regs7, show ((a + b) % 4294967296 - b) % 4294967296 = a by unfold B32 at ha; omega]
theorem su3_7 {a b x y : Int} : stepR ⟨82, regs 0 a b 0 0 0 0 a, [], 0, 0, 0⟩ (landM [x, y, 402653184] [] 0 false) 0 = ⟨⟨83, regs 0 a b 0 0 0 0 a, [], 0, 0, 0⟩, landM [x, y, 402653184] [] 0 false, false, false, 0, 0⟩ := by
  obtain ⟨_, _, h1, _, _, h2⟩ := f3 x y 402653184
  obtain ⟨_, _, _, _, _, _, _, _, _, _, k1, k2, k3, k4, k5⟩ := su_word (k := 7) (by omega)
  rw [step_at (h := ⟨82, regs 0 a b 0 0 0 0 a, [], 0, 0, 0⟩) rfl h1 h2 k1, k2, k3, k4, k5]
  rfl
end Go.Proofs.Ytihcellcdkhadaa.HM
