/-
  The program's functions at a table that is not there. Nothing here is a statement of the seed.
-/
import Derived.Test.YtleggfofgpiabaaGreatSymProg
set_option linter.unusedSimpArgs false
set_option linter.unusedVariables false
namespace Go.Proofs.YtleggfofgpiabaaGreat.SP
open Go.RowKit WM NR OM OR SM SR
set_option maxHeartbeats 4000000
set_option maxRecDepth 10000
theorem find_nil (w : World) (y : ByteArray) : Calls Tryz.prog 14 #[.pointer none, .string y] w fun e u => (∃ (x y : ByteArray) (g i r : Int), e = .returned (.tuple #[.agg #[.string x, .string y, .int .i64 g, .int .i64 i, .int .i64 r], .int .i64 1])) ∧ Below w.heap.size w u := by
  go_enter Tryz.func14, Tryz.ntmps14
  go_wp2_with fail
  exact bodyPost_ret (v := .tuple #[zE, .int .i64 1]) (by simp [results, Tryz.results14, go_sem]) rfl ⟨⟨_, _, _, _, _, rfl⟩, (Below.refl _ _).alloc (Nat.le_refl _) _⟩
theorem add_nil (w : World) (y : ByteArray) (g : Int) (v : Value) : Calls Tryz.prog 15 #[.pointer none, .string y, .int .i64 g, v] w fun e u => e = .returned (.int .i64 1) ∧ Below w.heap.size w u := by
  go_enter Tryz.func15, Tryz.ntmps15
  go_wp2_with fail
  go_ret
  exact ⟨rfl, Below.refl _ _⟩
theorem remove_nil (w : World) (y : ByteArray) : Calls Tryz.prog 16 #[.pointer none, .string y] w fun e u => e = .returned (.int .i64 1) ∧ Below w.heap.size w u := by
  go_enter Tryz.func16, Tryz.ntmps16
  go_wp2_with fail
  go_ret
  exact ⟨rfl, Below.refl _ _⟩
theorem count_nil (w : World) (v : Value) (b e : Int) : Calls Tryz.prog 37 #[.pointer none, v, .int .i64 b, .int .i64 e] w fun e u => e = .returned (.int .i64 1) ∧ Below w.heap.size w u := by
  go_enter Tryz.func37, Tryz.ntmps37
  go_wp2_with fail
  go_ret
  exact ⟨rfl, Below.refl _ _⟩
theorem hold_nil (w : World) (v : Value) : Calls Tryz.prog 17 #[.pointer none, v] w fun e u => e = .returned (.int .i64 1) ∧ Below w.heap.size w u := by
  have C := Lib.hid (count_nil w v 1 25)
  go_enter Tryz.func17, Tryz.ntmps17
  go_wp2_with (go_at_call 37; (with_reducible refine C.out.mono ?_); rintro e w1 ⟨rfl, h1⟩)
  go_ret
  exact ⟨rfl, h1⟩
theorem drop_nil (w : World) (v : Value) : Calls Tryz.prog 18 #[.pointer none, v] w fun e u => e = .returned (.int .i64 1) ∧ Below w.heap.size w u := by
  have C := Lib.hid (count_nil w v (-1) 2)
  go_enter Tryz.func18, Tryz.ntmps18
  go_wp2_with (go_at_call 37; (with_reducible refine C.out.mono ?_); rintro e w1 ⟨rfl, h1⟩)
  go_ret
  exact ⟨rfl, h1⟩
theorem refs_nil (w : World) (y : ByteArray) : Calls Tryz.prog 19 #[.pointer none, .string y] w fun e u => e = .returned (.int .i64 0) ∧ Below w.heap.size w u := by
  go_enter Tryz.func19, Tryz.ntmps19
  go_wp2_with fail
  go_ret
  exact ⟨rfl, Below.refl _ _⟩
theorem has_nil (w : World) (y : ByteArray) : Calls Tryz.prog 20 #[.pointer none, .string y] w fun e u => e = .returned (.bool false) ∧ Below w.heap.size w u := by
  go_enter Tryz.func20, Tryz.ntmps20
  go_wp2_with fail
  go_ret
  exact ⟨rfl, Below.refl _ _⟩
theorem list_nil (w : World) : Calls Tryz.prog 21 #[.pointer none] w fun e u => (∃ a c, e = .returned (.slice a 0 c)) ∧ Below w.heap.size w u := by
  go_enter Tryz.func21, Tryz.ntmps21
  go_wp2_with fail
  go_ret
  exact ⟨⟨_, _, rfl⟩, Below.refl _ _⟩
theorem fork_nil (w : World) : Calls Tryz.prog 13 #[.pointer none] w fun e u => e = .returned (.pointer none) ∧ Below w.heap.size w u := by
  go_enter Tryz.func13, Tryz.ntmps13
  go_wp2_with fail
  go_ret
  exact ⟨rfl, Below.refl _ _⟩
end Go.Proofs.YtleggfofgpiabaaGreat.SP
