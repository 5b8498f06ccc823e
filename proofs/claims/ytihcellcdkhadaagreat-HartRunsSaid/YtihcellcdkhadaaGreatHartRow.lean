/-
  Harts in memory: a value of thirteen cells; a note of four; boxes with them. Nothing here is a statement of the seed.
-/
import Derived.Test.YtihcellcdkhadaaGreatPageA
set_option linter.unusedSimpArgs false
set_option linter.unusedVariables false
namespace Go.Proofs.YtihcellcdkhadaaGreat.HR
open Go.RowKit PM PR

/-- a hart of plain cells -/
abbrev c8 (pc r0 r1 r2 r3 r4 r5 r6 r7 : Int) (a : Option Addr) (n c : Nat) (why ep home : Int) : Array Value := #[.int .u32 pc, .int .u32 r0, .int .u32 r1, .int .u32 r2, .int .u32 r3, .int .u32 r4, .int .u32 r5, .int .u32 r6, .int .u32 r7, .slice a n c, .int .u8 why, .int .u64 ep, .int .u32 home]
abbrev h8 (pc r0 r1 r2 r3 r4 r5 r6 r7 : Int) (a : Option Addr) (n c : Nat) (why ep home : Int) : Value := .agg (c8 pc r0 r1 r2 r3 r4 r5 r6 r7 a n c why ep home)
abbrev hCs (pc : Int) (R : Nat → Int) (a : Option Addr) (n c : Nat) (why ep home : Int) : Array Value := c8 pc (R 0) (R 1) (R 2) (R 3) (R 4) (R 5) (R 6) (R 7) a n c why ep home
abbrev hV (pc : Int) (R : Nat → Int) (a : Option Addr) (n c : Nat) (why ep home : Int) : Value := h8 pc (R 0) (R 1) (R 2) (R 3) (R 4) (R 5) (R 6) (R 7) a n c why ep home
abbrev nCs (sf st : Bool) (t x : Int) : Array Value := #[.bool sf, .bool st, .int .u32 t, .int .u32 x]
abbrev nV (sf st : Bool) (t x : Int) : Value := .agg (nCs sf st t x)
abbrev hZ : Array Value := c8 0 0 0 0 0 0 0 0 0 none 0 0 0 0 0
abbrev nZ : Array Value := nCs false false 0 0
theorem infoHart : (Tryz.prog.info? 30).map (·.size) = some 13 := by kernel_rfl
section
variable {w : World} {b : Nat} {cs : Array Value} {t : TypeId}
/-- a box with a hart: its cells -/
theorem hart_cells {pc r0 r1 r2 r3 r4 r5 r6 r7 : Int} {a : Option Addr} {n c : Nat} {why ep home : Int} (h : Whole w b t (c8 pc r0 r1 r2 r3 r4 r5 r6 r7 a n c why ep home)) : w.cell? ⟨b, 0, none⟩ = some (.int .u32 pc) ∧ w.cell? ⟨b, 1, none⟩ = some (.int .u32 r0) ∧ w.cell? ⟨b, 2, none⟩ = some (.int .u32 r1) ∧ w.cell? ⟨b, 3, none⟩ = some (.int .u32 r2) ∧ w.cell? ⟨b, 4, none⟩ = some (.int .u32 r3) ∧ w.cell? ⟨b, 5, none⟩ = some (.int .u32 r4) ∧ w.cell? ⟨b, 6, none⟩ = some (.int .u32 r5) ∧ w.cell? ⟨b, 7, none⟩ = some (.int .u32 r6) ∧ w.cell? ⟨b, 8, none⟩ = some (.int .u32 r7) ∧ w.cell? ⟨b, 9, none⟩ = some (.slice a n c) ∧ w.cell? ⟨b, 10, none⟩ = some (.int .u8 why) ∧ w.cell? ⟨b, 11, none⟩ = some (.int .u64 ep) ∧ w.cell? ⟨b, 12, none⟩ = some (.int .u32 home) :=
  ⟨h.cell 0, h.cell 1, h.cell 2, h.cell 3, h.cell 4, h.cell 5, h.cell 6, h.cell 7, h.cell 8, h.cell 9, h.cell 10, h.cell 11, h.cell 12⟩
/-- what a store of a whole hart asks -/
theorem hart_open (h : Whole w b t cs) (hs : cs.size = 13) : (∃ v0 v1 v2 v3 v4 v5 v6 v7 v8 v9 v10 v11 v12, w.cell? ⟨b, 0, none⟩ = some v0 ∧ w.cell? ⟨b, 1, none⟩ = some v1 ∧ w.cell? ⟨b, 2, none⟩ = some v2 ∧ w.cell? ⟨b, 3, none⟩ = some v3 ∧ w.cell? ⟨b, 4, none⟩ = some v4 ∧ w.cell? ⟨b, 5, none⟩ = some v5 ∧ w.cell? ⟨b, 6, none⟩ = some v6 ∧ w.cell? ⟨b, 7, none⟩ = some v7 ∧ w.cell? ⟨b, 8, none⟩ = some v8 ∧ w.cell? ⟨b, 9, none⟩ = some v9 ∧ w.cell? ⟨b, 10, none⟩ = some v10 ∧ w.cell? ⟨b, 11, none⟩ = some v11 ∧ w.cell? ⟨b, 12, none⟩ = some v12) ∧
    w.frozen? ⟨b, 0, none⟩ = false ∧ w.frozen? ⟨b, 1, none⟩ = false ∧ w.frozen? ⟨b, 2, none⟩ = false ∧ w.frozen? ⟨b, 3, none⟩ = false ∧ w.frozen? ⟨b, 4, none⟩ = false ∧ w.frozen? ⟨b, 5, none⟩ = false ∧ w.frozen? ⟨b, 6, none⟩ = false ∧ w.frozen? ⟨b, 7, none⟩ = false ∧ w.frozen? ⟨b, 8, none⟩ = false ∧ w.frozen? ⟨b, 9, none⟩ = false ∧ w.frozen? ⟨b, 10, none⟩ = false ∧ w.frozen? ⟨b, 11, none⟩ = false ∧ w.frozen? ⟨b, 12, none⟩ = false := by
  have c := fun i (hi : i < cs.size) => (h.cell i).trans (Array.getElem?_eq_getElem hi)
  exact ⟨⟨_, _, _, _, _, _, _, _, _, _, _, _, _, c 0 (by omega), c 1 (by omega), c 2 (by omega), c 3 (by omega), c 4 (by omega), c 5 (by omega), c 6 (by omega), c 7 (by omega), c 8 (by omega), c 9 (by omega), c 10 (by omega), c 11 (by omega), c 12 (by omega)⟩, h.frozen _, h.frozen _, h.frozen _, h.frozen _, h.frozen _, h.frozen _, h.frozen _, h.frozen _, h.frozen _, h.frozen _, h.frozen _, h.frozen _, h.frozen _⟩
theorem note_open (h : Whole w b t cs) (hs : cs.size = 4) : (∃ v0 v1 v2 v3, w.cell? ⟨b, 0, none⟩ = some v0 ∧ w.cell? ⟨b, 1, none⟩ = some v1 ∧ w.cell? ⟨b, 2, none⟩ = some v2 ∧ w.cell? ⟨b, 3, none⟩ = some v3) ∧
    w.frozen? ⟨b, 0, none⟩ = false ∧ w.frozen? ⟨b, 1, none⟩ = false ∧ w.frozen? ⟨b, 2, none⟩ = false ∧ w.frozen? ⟨b, 3, none⟩ = false := by
  have c := fun i (hi : i < cs.size) => (h.cell i).trans (Array.getElem?_eq_getElem hi)
  exact ⟨⟨_, _, _, _, c 0 (by omega), c 1 (by omega), c 2 (by omega), c 3 (by omega)⟩, h.frozen _, h.frozen _, h.frozen _, h.frozen _⟩
theorem note_cells {sf st : Bool} {t' x : Int} (h : Whole w b t (nCs sf st t' x)) : w.cell? ⟨b, 0, none⟩ = some (.bool sf) ∧ w.cell? ⟨b, 1, none⟩ = some (.bool st) ∧ w.cell? ⟨b, 2, none⟩ = some (.int .u32 t') ∧ w.cell? ⟨b, 3, none⟩ = some (.int .u32 x) :=
  ⟨h.cell 0, h.cell 1, h.cell 2, h.cell 3⟩
end
/-- thirteen cells laid, four cells laid -/
def putH (w : World) (b : Nat) (pc r0 r1 r2 r3 r4 r5 r6 r7 : Int) (a : Option Addr) (n c : Nat) (why ep home : Int) : World := w.setCells b 0 (c8 pc r0 r1 r2 r3 r4 r5 r6 r7 a n c why ep home).toList
def putN (w : World) (b : Nat) (sf st : Bool) (t x : Int) : World := w.setCells b 0 (nCs sf st t x).toList
theorem putH_eq (w : World) (b : Nat) (pc r0 r1 r2 r3 r4 r5 r6 r7 : Int) (a : Option Addr) (n c : Nat) (why ep home : Int) : (((((((((((((w.setCell ⟨b, 0, none⟩ (.int .u32 pc)).setCell ⟨b, 1, none⟩ (.int .u32 r0)).setCell ⟨b, 2, none⟩ (.int .u32 r1)).setCell ⟨b, 3, none⟩ (.int .u32 r2)).setCell ⟨b, 4, none⟩ (.int .u32 r3)).setCell ⟨b, 5, none⟩ (.int .u32 r4)).setCell ⟨b, 6, none⟩ (.int .u32 r5)).setCell ⟨b, 7, none⟩ (.int .u32 r6)).setCell ⟨b, 8, none⟩ (.int .u32 r7)).setCell ⟨b, 9, none⟩ (.slice a n c)).setCell ⟨b, 10, none⟩ (.int .u8 why)).setCell ⟨b, 11, none⟩ (.int .u64 ep)).setCell ⟨b, 12, none⟩ (.int .u32 home)) = putH w b pc r0 r1 r2 r3 r4 r5 r6 r7 a n c why ep home := rfl
theorem putN_eq (w : World) (b : Nat) (sf st : Bool) (t x : Int) : ((((w.setCell ⟨b, 0, none⟩ (.bool sf)).setCell ⟨b, 1, none⟩ (.bool st)).setCell ⟨b, 2, none⟩ (.int .u32 t)).setCell ⟨b, 3, none⟩ (.int .u32 x)) = putN w b sf st t x := rfl
section
variable {w : World} {b : Nat} {cs : Array Value} {t : TypeId}
theorem putH_whole (h : Whole w b t cs) (hs : cs.size = 13) (pc r0 r1 r2 r3 r4 r5 r6 r7 : Int) (a : Option Addr) (n c : Nat) (why ep home : Int) : Whole (putH w b pc r0 r1 r2 r3 r4 r5 r6 r7 a n c why ep home) b t (c8 pc r0 r1 r2 r3 r4 r5 r6 r7 a n c why ep home) := by
  obtain ⟨l⟩ := cs
  match l, hs with
  | [a0, a1, a2, a3, a4, a5, a6, a7, a8, a9, a10, a11, a12], _ =>
    have H := (((((((((((((h.set_ 0 (.int .u32 pc)).set_ 1 (.int .u32 r0)).set_ 2 (.int .u32 r1)).set_ 3 (.int .u32 r2)).set_ 4 (.int .u32 r3)).set_ 5 (.int .u32 r4)).set_ 6 (.int .u32 r5)).set_ 7 (.int .u32 r6)).set_ 8 (.int .u32 r7)).set_ 9 (.slice a n c)).set_ 10 (.int .u8 why)).set_ 11 (.int .u64 ep)).set_ 12 (.int .u32 home))
    simpa [putH, World.setCells] using H
theorem putN_whole (h : Whole w b t cs) (hs : cs.size = 4) (sf st : Bool) (y x : Int) : Whole (putN w b sf st y x) b t (nCs sf st y x) := by
  obtain ⟨l⟩ := cs
  match l, hs with
  | [a0, a1, a2, a3], _ =>
    have H := ((((h.set_ 0 (.bool sf)).set_ 1 (.bool st)).set_ 2 (.int .u32 y)).set_ 3 (.int .u32 x))
    simpa [putN, World.setCells] using H
theorem run_putH (h : Whole w b t cs) (hs : cs.size = 13) (pc r0 r1 r2 r3 r4 r5 r6 r7 : Int) (a : Option Addr) (n c : Nat) (why ep home : Int) : (Instr.storeAt 30 (.pointer (some ⟨b, 0, none⟩)) (h8 pc r0 r1 r2 r3 r4 r5 r6 r7 a n c why ep home)).run Tryz.prog w = .ok () (putH w b pc r0 r1 r2 r3 r4 r5 r6 r7 a n c why ep home) := by
  refine run_storeAt_mid w b 0 _ _ (fun j hj => ?_) infoHart (by simp [Value.oneCell'])
  have hj' : j < cs.size := by rw [hs]; exact hj
  refine ⟨?_, h.frozen _⟩
  rw [h.cell, Nat.zero_add, Array.getElem?_eq_getElem hj']
  rfl
theorem run_loadH {w : World} {pc r0 r1 r2 r3 r4 r5 r6 r7 : Int} {a : Option Addr} {n c : Nat} {why ep home : Int} (h : Whole w b t (c8 pc r0 r1 r2 r3 r4 r5 r6 r7 a n c why ep home)) : (Instr.loadAt 30 (.pointer (some ⟨b, 0, none⟩))).run Tryz.prog w = .ok (h8 pc r0 r1 r2 r3 r4 r5 r6 r7 a n c why ep home) w :=
  run_loadAt_mid w b 0 _ (c8 pc r0 r1 r2 r3 r4 r5 r6 r7 a n c why ep home).toList _ (fun j v hv => by rw [Nat.zero_add, h.cell, ← hv, Array.getElem?_toList]) Tryz.underlying30 rfl infoHart
theorem run_varH {w : World} {pc r0 r1 r2 r3 r4 r5 r6 r7 : Int} {a : Option Addr} {n c : Nat} {why ep home : Int} (h : Whole w b t (c8 pc r0 r1 r2 r3 r4 r5 r6 r7 a n c why ep home)) : (loadVar 30 ⟨b, 0, none⟩).run Tryz.prog w = .ok (h8 pc r0 r1 r2 r3 r4 r5 r6 r7 a n c why ep home) w :=
  run_loadVar_mid w b 0 _ (c8 pc r0 r1 r2 r3 r4 r5 r6 r7 a n c why ep home).toList _ (fun j v hv => by rw [Nat.zero_add, h.cell, ← hv, Array.getElem?_toList]) Tryz.underlying30 rfl infoHart
theorem infoN : (Tryz.prog.info? 41).map (·.size) = some 4 := by kernel_rfl
theorem run_putN (h : Whole w b t cs) (hs : cs.size = 4) (sf st : Bool) (y x : Int) : (Instr.storeAt 41 (.pointer (some ⟨b, 0, none⟩)) (nV sf st y x)).run Tryz.prog w = .ok () (putN w b sf st y x) := by
  refine run_storeAt_mid w b 0 _ _ (fun j hj => ?_) infoN (by simp [Value.oneCell'])
  have hj' : j < cs.size := by rw [hs]; exact hj
  refine ⟨?_, h.frozen _⟩
  rw [h.cell, Nat.zero_add, Array.getElem?_eq_getElem hj']
  rfl
theorem infoNR : (Tryz.prog.info? 44).map (·.size) = some 4 := by kernel_rfl
theorem run_putNR (h : Whole w b t cs) (hs : cs.size = 4) (sf st : Bool) (y x : Int) : (Instr.storeAt 44 (.pointer (some ⟨b, 0, none⟩)) (nV sf st y x)).run Tryz.prog w = .ok () (putN w b sf st y x) := by
  refine run_storeAt_mid w b 0 _ _ (fun j hj => ?_) infoNR (by simp [Value.oneCell'])
  have hj' : j < cs.size := by rw [hs]; exact hj
  refine ⟨?_, h.frozen _⟩
  rw [h.cell, Nat.zero_add, Array.getElem?_eq_getElem hj']
  rfl
theorem run_varN {w : World} {sf st : Bool} {y x : Int} (h : Whole w b t (nCs sf st y x)) : (loadVar 41 ⟨b, 0, none⟩).run Tryz.prog w = .ok (nV sf st y x) w :=
  run_loadVar_mid w b 0 _ (nCs sf st y x).toList _ (fun j v hv => by rw [Nat.zero_add, h.cell, ← hv, Array.getElem?_toList]) Tryz.underlying41 rfl infoN
theorem run_loadN {w : World} {sf st : Bool} {y x : Int} (h : Whole w b t (nCs sf st y x)) : (Instr.loadAt 41 (.pointer (some ⟨b, 0, none⟩))).run Tryz.prog w = .ok (nV sf st y x) w :=
  run_loadAt_mid w b 0 _ (nCs sf st y x).toList _ (fun j v hv => by rw [Nat.zero_add, h.cell, ← hv, Array.getElem?_toList]) Tryz.underlying41 rfl infoN
theorem run_varNR {w : World} {sf st : Bool} {y x : Int} (h : Whole w b t (nCs sf st y x)) : (loadVar 44 ⟨b, 0, none⟩).run Tryz.prog w = .ok (nV sf st y x) w :=
  run_loadVar_mid w b 0 _ (nCs sf st y x).toList _ (fun j v hv => by rw [Nat.zero_add, h.cell, ← hv, Array.getElem?_toList]) Tryz.underlying44 rfl infoNR
theorem run_loadNR {w : World} {sf st : Bool} {y x : Int} (h : Whole w b t (nCs sf st y x)) : (Instr.loadAt 44 (.pointer (some ⟨b, 0, none⟩))).run Tryz.prog w = .ok (nV sf st y x) w :=
  run_loadAt_mid w b 0 _ (nCs sf st y x).toList _ (fun j v hv => by rw [Nat.zero_add, h.cell, ← hv, Array.getElem?_toList]) Tryz.underlying44 rfl infoNR
theorem putH_fr (w : World) (b : Nat) (pc r0 r1 r2 r3 r4 r5 r6 r7 : Int) (a : Option Addr) (n c : Nat) (why ep home : Int) : Fr (fun i => i = b) w (putH w b pc r0 r1 r2 r3 r4 r5 r6 r7 a n c why ep home) :=
  ((((((((((((((Fr.refl (fun i => i = b) w).set (p := ⟨b, 0, none⟩) (Or.inl rfl) _).set (p := ⟨b, 1, none⟩) (Or.inl rfl) _).set (p := ⟨b, 2, none⟩) (Or.inl rfl) _).set (p := ⟨b, 3, none⟩) (Or.inl rfl) _).set (p := ⟨b, 4, none⟩) (Or.inl rfl) _).set (p := ⟨b, 5, none⟩) (Or.inl rfl) _).set (p := ⟨b, 6, none⟩) (Or.inl rfl) _).set (p := ⟨b, 7, none⟩) (Or.inl rfl) _).set (p := ⟨b, 8, none⟩) (Or.inl rfl) _).set (p := ⟨b, 9, none⟩) (Or.inl rfl) _).set (p := ⟨b, 10, none⟩) (Or.inl rfl) _).set (p := ⟨b, 11, none⟩) (Or.inl rfl) _).set (p := ⟨b, 12, none⟩) (Or.inl rfl) _)
theorem putN_fr (w : World) (b : Nat) (sf st : Bool) (y x : Int) : Fr (fun i => i = b) w (putN w b sf st y x) :=
  (((((Fr.refl (fun i => i = b) w).set (p := ⟨b, 0, none⟩) (Or.inl rfl) _).set (p := ⟨b, 1, none⟩) (Or.inl rfl) _).set (p := ⟨b, 2, none⟩) (Or.inl rfl) _).set (p := ⟨b, 3, none⟩) (Or.inl rfl) _)
theorem putH_size (w : World) (b : Nat) (pc r0 r1 r2 r3 r4 r5 r6 r7 : Int) (a : Option Addr) (n c : Nat) (why ep home : Int) : (putH w b pc r0 r1 r2 r3 r4 r5 r6 r7 a n c why ep home).heap.size = w.heap.size := by simp [putH, World.setCells]
theorem putN_size (w : World) (b : Nat) (sf st : Bool) (y x : Int) : (putN w b sf st y x).heap.size = w.heap.size := by simp [putN, World.setCells]
end
end Go.Proofs.YtihcellcdkhadaaGreat.HR
