/-
  What the functions of the reference for layer 4 tell, call by call. Nothing here is a statement of the seed.
-/
import Derived.Test.YtdnjilnnlgphhaaIsaFn
set_option linter.unusedSimpArgs false
set_option linter.unusedVariables false
namespace Go.Proofs.Ytdnjilnnlgphhaa.IF
open Go.RowKit WM IM WF

theorem refUses_far (o : Int) (ho : 22 ≤ o ∧ o ≤ 255) :
    Says Try.prog 34 #[.int .u8 o] (.agg #[.bool false, .bool false, .bool false, .bool false]) := by
  intro w
  obtain ⟨h1, h2⟩ := ho
  have t2 : (o == 2) = false := by simp; omega
  have t3 : (o == 3) = false := by simp; omega
  have t4 : (o == 4) = false := by simp; omega
  have t5 : (o == 5) = false := by simp; omega
  have t6 : (o == 6) = false := by simp; omega
  have t7 : (o == 7) = false := by simp; omega
  have t8 : (o == 8) = false := by simp; omega
  have t9 : (o == 9) = false := by simp; omega
  have t10 : (o == 10) = false := by simp; omega
  have t11 : (o == 11) = false := by simp; omega
  have t12 : (o == 12) = false := by simp; omega
  have t13 : (o == 13) = false := by simp; omega
  have t15 : (o == 15) = false := by simp; omega
  have t16 : (o == 16) = false := by simp; omega
  have t14 : (o == 14) = false := by simp; omega
  have t17 : (o == 17) = false := by simp; omega
  have t21 : (o == 21) = false := by simp; omega
  have t19 : (o == 19) = false := by simp; omega
  go_enter Try.func34, Try.ntmps34
  go_wp2
  exact bodyPost_ret (v := .agg #[.bool false, .bool false, .bool false, .bool false]) (by simp [results, Try.results34, go_sem]) rfl ⟨rfl, below_new _ _⟩
set_option maxHeartbeats 1000000 in
theorem refUses_near (o : Int) (ho : 0 ≤ o ∧ o ≤ 21) :
    Says Try.prog 34 #[.int .u8 o] (.agg #[.bool (uD o), .bool (uA o), .bool (uB o), .bool (uI o)]) := by
  intro w
  have hc : o = 0 ∨ o = 1 ∨ o = 2 ∨ o = 3 ∨ o = 4 ∨ o = 5 ∨ o = 6 ∨ o = 7 ∨ o = 8 ∨ o = 9 ∨ o = 10 ∨ o = 11 ∨ o = 12 ∨ o = 13 ∨ o = 14 ∨ o = 15 ∨ o = 16 ∨ o = 17 ∨ o = 18 ∨ o = 19 ∨ o = 20 ∨ o = 21 := by omega
  rcases hc with rfl | rfl | rfl | rfl | rfl | rfl | rfl | rfl | rfl | rfl | rfl | rfl | rfl | rfl | rfl | rfl | rfl | rfl | rfl | rfl | rfl | rfl
  all_goals
    go_enter Try.func34, Try.ntmps34
    go_wp2
    refine bodyPost_ret (v := .agg #[.bool (uD _), .bool (uA _), .bool (uB _), .bool (uI _)]) ?_ rfl ⟨rfl, below_new _ _⟩
    simp [results, Try.results34, go_sem, uD, uA, uB, uI]
theorem refUses_any (o : Int) (ho : 0 ≤ o ∧ o ≤ 255) :
    Says Try.prog 34 #[.int .u8 o] (.agg #[.bool (uD o), .bool (uA o), .bool (uB o), .bool (uI o)]) := by
  by_cases h : o ≤ 21
  · exact refUses_near o ⟨ho.1, h⟩
  · have e1 : uD o = false := by unfold uD; simp; omega
    have e2 : uA o = false := by unfold uA; simp; omega
    have e3 : uB o = false := by unfold uB; simp; omega
    have e4 : uI o = false := by unfold uI; simp; omega
    rw [e1, e2, e3, e4]
    exact refUses_far o ⟨by omega, ho.2⟩
/-- what the reference's Uses tells, in the world of its caller -/
abbrev UsesAt (o : Int) (u0 u1 u2 u3 : Bool) : Prop := Says Try.prog 34 #[.int .u8 o] (.agg #[.bool u0, .bool u1, .bool u2, .bool u3])
theorem refCheck_out (o d a b m : Int) (u0 u1 u2 u3 : Bool) (C : UsesAt o u0 u1 u2 u3) (h : 21 < o ∨ 7 < d ∨ 7 < a ∨ 7 < b) :
    Says Try.prog 36 #[insV o d a b m] (.int .i64 10) := by
  intro w
  have C1 := Lib.hid C
  clear C
  have hh : 21 < o ∨ (o ≤ 21 ∧ 7 < d) ∨ (o ≤ 21 ∧ d ≤ 7 ∧ 7 < a) ∨ (o ≤ 21 ∧ d ≤ 7 ∧ a ≤ 7 ∧ 7 < b) := by omega
  clear h
  rcases hh with h | ⟨h1, h⟩ | ⟨h1, h2, h⟩ | ⟨h1, h2, h3, h⟩
  all_goals
    go_enter Try.func36, Try.ntmps36
    go_wp2_with (first | (go_at_call 34; refine (C1.out.at _).mono ?_; rintro e w1 ⟨rfl, hb⟩; obtain ⟨hc, hf⟩ := bcell hb; have hz : w.heap.size < w1.heap.size := by (have := hb.size; simp at this; omega)))
    go_ret
    exact ⟨rfl, (end_alloc hb).alloc (Nat.le_of_lt hz) _⟩
/-- the parts that are used, one by one, all numbers in their bounds -/
def In7 (o d a b m : Int) : Prop := 0 ≤ o ∧ o ≤ 21 ∧ 0 ≤ d ∧ d ≤ 7 ∧ 0 ≤ a ∧ a ≤ 7 ∧ 0 ≤ b ∧ b ≤ 7 ∧ -2147483648 ≤ m ∧ m ≤ 2147483647
theorem end_two {w w1 : World} {o1 o2 : Obj} (hb : Below (w.alloc o1).heap.size (w.alloc o1) w1) (hz : w.heap.size < w1.heap.size) : Below w.heap.size w (w1.alloc o2) := (end_alloc hb).alloc (Nat.le_of_lt hz) _
end Go.Proofs.Ytdnjilnnlgphhaa.IF
