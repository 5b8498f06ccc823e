/-
  A box with a whole memory laid into it at once. Nothing here is a statement of the seed.
-/
import Derived.Test.YtkmjacpcpchjoaaMemRef3
set_option linter.unusedSimpArgs false
set_option linter.unusedVariables false
namespace Go.Proofs.Ytkmjacpcpchjoaa.MF
open Go.RowKit PM PR PF MM MR

theorem infoMem : (Try.prog.info? 33).map (·.size) = some 10 := by kernel_rfl
/-- ten cells laid from the block's start on -/
def putB (w : World) (b : Nat) (G : Nat → Int) (gr n c gw m d : Nat) : World := w.setCells b 0 (rCs G gr n c gw m d).toList
section
variable {w : World} {b : Nat} {cs : Array Value}
theorem putB_whole (h : Whole w b 33 cs) (hs : cs.size = 10) (G : Nat → Int) (gr n c gw m d : Nat) : Whole (putB w b G gr n c gw m d) b 33 (rCs G gr n c gw m d) := by
  obtain ⟨l⟩ := cs
  match l, hs with
  | [a0, a1, a2, a3, a4, a5, a6, a7, a8, a9], _ =>
    have H := ((((((((((h.set_ 0 (.int .u32 (G 0))).set_ 1 (.int .u32 (G 1))).set_ 2 (.int .u32 (G 2))).set_ 3 (.int .u32 (G 3))).set_ 4 (.int .u32 (G 4))).set_ 5 (.int .u32 (G 5))).set_ 6 (.int .u32 (G 6))).set_ 7 (.int .u32 (G 7))).set_ 8 (.slice (some ⟨gr, 0, none⟩) n c)).set_ 9 (.slice (some ⟨gw, 0, none⟩) m d))
    simpa [putB, World.setCells] using H
/-- what a store of the whole asks -/
theorem box_open (h : Whole w b 33 cs) (hs : cs.size = 10) : (∃ v0 v1 v2 v3 v4 v5 v6 v7 v8 v9, w.cell? ⟨b, 0, none⟩ = some v0 ∧ w.cell? ⟨b, 1, none⟩ = some v1 ∧ w.cell? ⟨b, 2, none⟩ = some v2 ∧ w.cell? ⟨b, 3, none⟩ = some v3 ∧ w.cell? ⟨b, 4, none⟩ = some v4 ∧ w.cell? ⟨b, 5, none⟩ = some v5 ∧ w.cell? ⟨b, 6, none⟩ = some v6 ∧ w.cell? ⟨b, 7, none⟩ = some v7 ∧ w.cell? ⟨b, 8, none⟩ = some v8 ∧ w.cell? ⟨b, 9, none⟩ = some v9) ∧
    w.frozen? ⟨b, 0, none⟩ = false ∧ w.frozen? ⟨b, 1, none⟩ = false ∧ w.frozen? ⟨b, 2, none⟩ = false ∧ w.frozen? ⟨b, 3, none⟩ = false ∧ w.frozen? ⟨b, 4, none⟩ = false ∧ w.frozen? ⟨b, 5, none⟩ = false ∧ w.frozen? ⟨b, 6, none⟩ = false ∧ w.frozen? ⟨b, 7, none⟩ = false ∧ w.frozen? ⟨b, 8, none⟩ = false ∧ w.frozen? ⟨b, 9, none⟩ = false := by
  have c := fun i (hi : i < cs.size) => (h.cell i).trans (Array.getElem?_eq_getElem hi)
  exact ⟨⟨_, _, _, _, _, _, _, _, _, _, c 0 (by omega), c 1 (by omega), c 2 (by omega), c 3 (by omega), c 4 (by omega), c 5 (by omega), c 6 (by omega), c 7 (by omega), c 8 (by omega), c 9 (by omega)⟩, h.frozen _, h.frozen _, h.frozen _, h.frozen _, h.frozen _, h.frozen _, h.frozen _, h.frozen _, h.frozen _, h.frozen _⟩
theorem putB_eq (w : World) (b : Nat) (G : Nat → Int) (gr n c gw m d : Nat) : (((((((((w.setCell ⟨b, 0, none⟩ (.int .u32 (G 0))).setCell ⟨b, 1, none⟩ (.int .u32 (G 1))).setCell ⟨b, 2, none⟩ (.int .u32 (G 2))).setCell ⟨b, 3, none⟩ (.int .u32 (G 3))).setCell ⟨b, 4, none⟩ (.int .u32 (G 4))).setCell ⟨b, 5, none⟩ (.int .u32 (G 5))).setCell ⟨b, 6, none⟩ (.int .u32 (G 6))).setCell ⟨b, 7, none⟩ (.int .u32 (G 7))).setCell ⟨b, 8, none⟩ (.slice (some ⟨gr, 0, none⟩) n c)).setCell ⟨b, 9, none⟩ (.slice (some ⟨gw, 0, none⟩) m d) = putB w b G gr n c gw m d := rfl
theorem putB_run (h : Whole w b 33 cs) (hs : cs.size = 10) (G : Nat → Int) (gr n c gw m d : Nat) :
    (Instr.storeAt 33 (.pointer (some ⟨b, 0, none⟩)) (rV G gr n c gw m d)).run Try.prog w = .ok () (putB w b G gr n c gw m d) := by
  refine run_storeAt_mid w b 0 _ _ (fun j hj => ?_) infoMem (by simp [Value.oneCell'])
  have hj' : j < cs.size := by rw [hs]; exact hj
  refine ⟨?_, h.frozen _⟩
  rw [h.cell, Nat.zero_add, Array.getElem?_eq_getElem hj']
  rfl
theorem putB_fr (w : World) (b : Nat) (G : Nat → Int) (gr n c gw m d : Nat) : Fr (fun i => i = b) w (putB w b G gr n c gw m d) :=
  (((((((((((Fr.refl (fun i => i = b) w).set (p := ⟨b, 0, none⟩) (Or.inl rfl) _).set (p := ⟨b, 1, none⟩) (Or.inl rfl) _).set (p := ⟨b, 2, none⟩) (Or.inl rfl) _).set (p := ⟨b, 3, none⟩) (Or.inl rfl) _).set (p := ⟨b, 4, none⟩) (Or.inl rfl) _).set (p := ⟨b, 5, none⟩) (Or.inl rfl) _).set (p := ⟨b, 6, none⟩) (Or.inl rfl) _).set (p := ⟨b, 7, none⟩) (Or.inl rfl) _).set (p := ⟨b, 8, none⟩) (Or.inl rfl) _).set (p := ⟨b, 9, none⟩) (Or.inl rfl) _)
theorem putB_below {B : Nat} {w0 : World} (h : Below B w0 w) (hB : B ≤ b) (hs : B ≤ w.heap.size) (G : Nat → Int) (gr n c gw m d : Nat) : Below B w0 (putB w b G gr n c gw m d) := PR.Below.fr h (putB_fr w b G gr n c gw m d) hs (fun i hi => by subst hi; exact hB)
end
end Go.Proofs.Ytkmjacpcpchjoaa.MF
