/-
  A register put. Nothing here is a statement of the seed.
-/
import Derived.Test.YtihcellcdkhadaaGreatHartFn
set_option linter.unusedSimpArgs false
set_option linter.unusedVariables false
namespace Go.Proofs.YtihcellcdkhadaaGreat.HF
open Go.RowKit PM PR PF MM MR MF HM HR
set_option maxHeartbeats 2000000
set_option maxRecDepth 10000
theorem put_any (pc : Int) (R : Nat → Int) (a : Option Addr) (n c : Nat) (why ep home : Int) (i x : Int) (hi : 0 ≤ i ∧ i ≤ 7) : Says Tryz.prog 75 #[hV pc R a n c why ep home, .int .u8 i, .int .u32 x] (.tuple #[hV (up pc) (putR R i x) a n c why ep home, nV false false 0 0]) := by
  intro w
  have CT := Lib.hid (fun u r0 r1 r2 r3 r4 r5 r6 r7 => turn8 pc r0 r1 r2 r3 r4 r5 r6 r7 a n c why ep home ((pc + 1) % 4294967296) u)
  rcases (show i = 0 ∨ i = 1 ∨ i = 2 ∨ i = 3 ∨ i = 4 ∨ i = 5 ∨ i = 6 ∨ i = 7 by omega) with rfl | rfl | rfl | rfl | rfl | rfl | rfl | rfl
  all_goals
    clear hi
    go_enter Tryz.func75, Tryz.ntmps75
    go_wp2_with (go_at_call 83; (with_reducible refine (CT.out _ _ _ _ _ _ _ _ _).mono ?_); rintro e w1 ⟨rfl, hb⟩; have E := Lib.hid (w3_ends hb).1; have B := Lib.hid (w3_ends hb).2; clear hb; obtain ⟨l1, l2, ⟨⟨v0, v1, v2, v3, v4, v5, v6, v7, v8, v9, v10, v11, v12, e0, e1, e2, e3, e4, e5, e6, e7, e8, e9, e10, e11, e12⟩, f0, f1, f2, f3, f4, f5, f6, f7, f8, f9, f10, f11, f12⟩, ⟨⟨z0, z1, z2, z3, g0, g1, g2, g3⟩, i0, i1, i2, i3⟩⟩ := E.out.open_)
    rw [putH_eq, putN_eq]
    exact bodyPost_ret (v := .tuple #[hV (up pc) (putR R _ x) a n c why ep home, nV false false 0 0]) (by simp [results, Tryz.results75, go_sem, E.out.cells, putR, setG, up]) rfl ⟨rfl, ends_low B.out (by omega) ..⟩
end Go.Proofs.YtihcellcdkhadaaGreat.HF
