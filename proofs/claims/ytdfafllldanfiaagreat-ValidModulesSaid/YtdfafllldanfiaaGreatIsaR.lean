/-
  Joined texts: IsaRef, IsaRef2, IsaRef3. Nothing here is a statement of the seed.
-/
import Derived.Test.YtdfafllldanfiaaGreatIsaFn
set_option linter.unusedSimpArgs false
set_option linter.unusedVariables false
/-
  What the functions of the reference for layer 4 tell, call by call. Nothing here is a statement of the seed.
-/
namespace Go.Proofs.YtdfafllldanfiaaGreat.IF
open Go.RowKit WM IM WF

theorem refUses_far (o : Int) (ho : 22 ≤ o ∧ o ≤ 255) :
    Says Tryz.prog 60 #[.int .u8 o] (.agg #[.bool false, .bool false, .bool false, .bool false]) := by
  intro w
  obtain ⟨h1, h2⟩ := ho
  have t2 : (o == 2) = false := by simp; omega
  have t3 : (o == 3) = false := by simp; omega
  have t4 : (o == 4) = false := by simp; omega
  have t5 : (o == 5) = false := by simp; omega
  have t6 : (o == 6) = false := by simp; omega
  have t7 : (o == 7) = false := by simp; omega
  have t8 : (o == 8) = false := by simp; omega
  have t9 : (o == 9) = false := by simp; omega
  have t10 : (o == 10) = false := by simp; omega
  have t11 : (o == 11) = false := by simp; omega
  have t12 : (o == 12) = false := by simp; omega
  have t13 : (o == 13) = false := by simp; omega
  have t15 : (o == 15) = false := by simp; omega
  have t16 : (o == 16) = false := by simp; omega
  have t14 : (o == 14) = false := by simp; omega
  have t17 : (o == 17) = false := by simp; omega
  have t21 : (o == 21) = false := by simp; omega
  have t19 : (o == 19) = false := by simp; omega
  go_enter Tryz.func60, Tryz.ntmps60
  go_wp2
  exact bodyPost_ret (v := .agg #[.bool false, .bool false, .bool false, .bool false]) (by simp [results, Tryz.results60, go_sem]) rfl ⟨rfl, below_new _ _⟩
set_option maxHeartbeats 1000000 in
theorem refUses_near (o : Int) (ho : 0 ≤ o ∧ o ≤ 21) :
    Says Tryz.prog 60 #[.int .u8 o] (.agg #[.bool (uD o), .bool (uA o), .bool (uB o), .bool (uI o)]) := by
  intro w
  have hc : o = 0 ∨ o = 1 ∨ o = 2 ∨ o = 3 ∨ o = 4 ∨ o = 5 ∨ o = 6 ∨ o = 7 ∨ o = 8 ∨ o = 9 ∨ o = 10 ∨ o = 11 ∨ o = 12 ∨ o = 13 ∨ o = 14 ∨ o = 15 ∨ o = 16 ∨ o = 17 ∨ o = 18 ∨ o = 19 ∨ o = 20 ∨ o = 21 := by omega
  rcases hc with rfl | rfl | rfl | rfl | rfl | rfl | rfl | rfl | rfl | rfl | rfl | rfl | rfl | rfl | rfl | rfl | rfl | rfl | rfl | rfl | rfl | rfl
  all_goals
    go_enter Tryz.func60, Tryz.ntmps60
    go_wp2
    refine bodyPost_ret (v := .agg #[.bool (uD _), .bool (uA _), .bool (uB _), .bool (uI _)]) ?_ rfl ⟨rfl, below_new _ _⟩
    simp [results, Tryz.results60, go_sem, uD, uA, uB, uI]
theorem refUses_any (o : Int) (ho : 0 ≤ o ∧ o ≤ 255) :
    Says Tryz.prog 60 #[.int .u8 o] (.agg #[.bool (uD o), .bool (uA o), .bool (uB o), .bool (uI o)]) := by
  by_cases h : o ≤ 21
  · exact refUses_near o ⟨ho.1, h⟩
  · have e1 : uD o = false := by unfold uD; simp; omega
    have e2 : uA o = false := by unfold uA; simp; omega
    have e3 : uB o = false := by unfold uB; simp; omega
    have e4 : uI o = false := by unfold uI; simp; omega
    rw [e1, e2, e3, e4]
    exact refUses_far o ⟨by omega, ho.2⟩
/-- what the reference's Uses tells, in the world of its caller -/
abbrev UsesAt (o : Int) (u0 u1 u2 u3 : Bool) : Prop := Says Tryz.prog 60 #[.int .u8 o] (.agg #[.bool u0, .bool u1, .bool u2, .bool u3])
theorem refCheck_out (o d a b m : Int) (u0 u1 u2 u3 : Bool) (C : UsesAt o u0 u1 u2 u3) (h : 21 < o ∨ 7 < d ∨ 7 < a ∨ 7 < b) :
    Says Tryz.prog 72 #[insV o d a b m] (.int .i64 10) := by
  intro w
  have C1 := Lib.hid C
  clear C
  have hh : 21 < o ∨ (o ≤ 21 ∧ 7 < d) ∨ (o ≤ 21 ∧ d ≤ 7 ∧ 7 < a) ∨ (o ≤ 21 ∧ d ≤ 7 ∧ a ≤ 7 ∧ 7 < b) := by omega
  clear h
  rcases hh with h | ⟨h1, h⟩ | ⟨h1, h2, h⟩ | ⟨h1, h2, h3, h⟩
  all_goals
    go_enter Tryz.func72, Tryz.ntmps72
    go_wp2_with (first | (go_at_call 60; refine (C1.out.at _).mono ?_; rintro e w1 ⟨rfl, hb⟩; obtain ⟨hc, hf⟩ := bcell hb; have hz : w.heap.size < w1.heap.size := by (have := hb.size; simp at this; omega)))
    go_ret
    exact ⟨rfl, (end_alloc hb).alloc (Nat.le_of_lt hz) _⟩
/-- the parts that are used, one by one, all numbers in their bounds -/
def In7 (o d a b m : Int) : Prop := 0 ≤ o ∧ o ≤ 21 ∧ 0 ≤ d ∧ d ≤ 7 ∧ 0 ≤ a ∧ a ≤ 7 ∧ 0 ≤ b ∧ b ≤ 7 ∧ -2147483648 ≤ m ∧ m ≤ 2147483647
theorem end_two {w w1 : World} {o1 o2 : Obj} (hb : Below (w.alloc o1).heap.size (w.alloc o1) w1) (hz : w.heap.size < w1.heap.size) : Below w.heap.size w (w1.alloc o2) := (end_alloc hb).alloc (Nat.le_of_lt hz) _
end Go.Proofs.YtdfafllldanfiaaGreat.IF

/-
  The reference's Check, by which parts an operation uses. Nothing here is a statement of the seed.
-/
namespace Go.Proofs.YtdfafllldanfiaaGreat.IF
open Go.RowKit WM IM WF

set_option maxHeartbeats 2000000 in
theorem refCheck_none (o d a b m K : Int) (C : UsesAt o false false false false) (h : In7 o d a b m) (ho : (o == 17) = false) (ho' : (o == 21) = false) (hK : K = (if d = 0 ∧ a = 0 ∧ b = 0 ∧ m = 0 then if fitB m 21 = true then 0 else 11 else 10)) :
    Says Tryz.prog 72 #[insV o d a b m] (.int .i64 K) := by
  intro w
  obtain ⟨h1, h2, h3, h4, h5, h6, h7, h8, h9, h10⟩ := h
  have C1 := Lib.hid C
  have C2 := Lib.hid (fun w => refFits_yes m 21 w (by omega) (by omega))
  clear C
  have HK := Lib.hid hK
  clear hK
  all_goals
    go_enter Tryz.func72, Tryz.ntmps72
    go_wp2_with (first | (go_at_call 60; refine (C1.out.at _).mono ?_; rintro e w1 ⟨rfl, hb⟩; obtain ⟨hc, hf⟩ := bcell hb; have hz : w.heap.size < w1.heap.size := by (have := hb.size; simp at this; omega)) | (go_at_call 85; refine (C2.out _).mono ?_; rintro e w2 ⟨rfl, rfl⟩))
  all_goals go_ret
  all_goals refine ⟨ret_int ?_, end_two (by assumption) (by assumption)⟩
  all_goals refine Eq.trans ?_ HK.out.symm
  all_goals clear C1 C2 HK
  all_goals try simp only [bne_iff_ne, ne_eq, beq_iff_eq, bne_eq_false_iff_eq] at *
  all_goals (repeat' split) <;> first | rfl | omega | (exfalso; simp_all; done) | (exfalso; simp_all; omega)
set_option maxHeartbeats 2000000 in
theorem refCheck_li (o d a b m K : Int) (C : UsesAt o true false false true) (h : In7 o d a b m) (ho : (o == 17) = false) (ho' : (o == 21) = false) (hK : K = (if a = 0 ∧ b = 0 then if fitB m 21 = true then 0 else 11 else 10)) :
    Says Tryz.prog 72 #[insV o d a b m] (.int .i64 K) := by
  intro w
  obtain ⟨h1, h2, h3, h4, h5, h6, h7, h8, h9, h10⟩ := h
  have C1 := Lib.hid C
  have C2 := Lib.hid (fun w => refFits_yes m 21 w (by omega) (by omega))
  clear C
  have HK := Lib.hid hK
  clear hK
  all_goals
    go_enter Tryz.func72, Tryz.ntmps72
    go_wp2_with (first | (go_at_call 60; refine (C1.out.at _).mono ?_; rintro e w1 ⟨rfl, hb⟩; obtain ⟨hc, hf⟩ := bcell hb; have hz : w.heap.size < w1.heap.size := by (have := hb.size; simp at this; omega)) | (go_at_call 85; refine (C2.out _).mono ?_; rintro e w2 ⟨rfl, rfl⟩))
  all_goals go_ret
  all_goals refine ⟨ret_int ?_, end_two (by assumption) (by assumption)⟩
  all_goals refine Eq.trans ?_ HK.out.symm
  all_goals clear C1 C2 HK
  all_goals try simp only [bne_iff_ne, ne_eq, beq_iff_eq, bne_eq_false_iff_eq] at *
  all_goals (repeat' split) <;> first | rfl | omega | (exfalso; simp_all; done) | (exfalso; simp_all; omega)
set_option maxHeartbeats 2000000 in
theorem refCheck_dab (o d a b m K : Int) (C : UsesAt o true true true false) (h : In7 o d a b m) (ho : (o == 17) = false) (ho' : (o == 21) = false) (hK : K = (if m = 0 then if fitB m 21 = true then 0 else 11 else 10)) :
    Says Tryz.prog 72 #[insV o d a b m] (.int .i64 K) := by
  intro w
  obtain ⟨h1, h2, h3, h4, h5, h6, h7, h8, h9, h10⟩ := h
  have C1 := Lib.hid C
  have C2 := Lib.hid (fun w => refFits_yes m 21 w (by omega) (by omega))
  clear C
  have HK := Lib.hid hK
  clear hK
  all_goals
    go_enter Tryz.func72, Tryz.ntmps72
    go_wp2_with (first | (go_at_call 60; refine (C1.out.at _).mono ?_; rintro e w1 ⟨rfl, hb⟩; obtain ⟨hc, hf⟩ := bcell hb; have hz : w.heap.size < w1.heap.size := by (have := hb.size; simp at this; omega)) | (go_at_call 85; refine (C2.out _).mono ?_; rintro e w2 ⟨rfl, rfl⟩))
  all_goals go_ret
  all_goals refine ⟨ret_int ?_, end_two (by assumption) (by assumption)⟩
  all_goals refine Eq.trans ?_ HK.out.symm
  all_goals clear C1 C2 HK
  all_goals try simp only [bne_iff_ne, ne_eq, beq_iff_eq, bne_eq_false_iff_eq] at *
  all_goals (repeat' split) <;> first | rfl | omega | (exfalso; simp_all; done) | (exfalso; simp_all; omega)
end Go.Proofs.YtdfafllldanfiaaGreat.IF

/-
  The reference's Check, by which parts an operation uses, further. Nothing here is a statement of the seed.
-/
namespace Go.Proofs.YtdfafllldanfiaaGreat.IF
open Go.RowKit WM IM WF

set_option maxHeartbeats 2000000 in
theorem refCheck_dai (o d a b m K : Int) (C : UsesAt o true true false true) (h : In7 o d a b m) (ho : (o == 17) = false) (ho' : (o == 21) = false) (hK : K = (if b = 0 then if fitB m 21 = true then 0 else 11 else 10)) :
    Says Tryz.prog 72 #[insV o d a b m] (.int .i64 K) := by
  intro w
  obtain ⟨h1, h2, h3, h4, h5, h6, h7, h8, h9, h10⟩ := h
  have C1 := Lib.hid C
  have C2 := Lib.hid (fun w => refFits_yes m 21 w (by omega) (by omega))
  clear C
  have HK := Lib.hid hK
  clear hK
  all_goals
    go_enter Tryz.func72, Tryz.ntmps72
    go_wp2_with (first | (go_at_call 60; refine (C1.out.at _).mono ?_; rintro e w1 ⟨rfl, hb⟩; obtain ⟨hc, hf⟩ := bcell hb; have hz : w.heap.size < w1.heap.size := by (have := hb.size; simp at this; omega)) | (go_at_call 85; refine (C2.out _).mono ?_; rintro e w2 ⟨rfl, rfl⟩))
  all_goals go_ret
  all_goals refine ⟨ret_int ?_, end_two (by assumption) (by assumption)⟩
  all_goals refine Eq.trans ?_ HK.out.symm
  all_goals clear C1 C2 HK
  all_goals try simp only [bne_iff_ne, ne_eq, beq_iff_eq, bne_eq_false_iff_eq] at *
  all_goals (repeat' split) <;> first | rfl | omega | (exfalso; simp_all; done) | (exfalso; simp_all; omega)
set_option maxHeartbeats 2000000 in
theorem refCheck_imm (o d a b m K : Int) (C : UsesAt o false false false true) (h : In7 o d a b m) (ho : o = 14 ∨ o = 17 ∨ o = 21) (hK : K = (if d = 0 ∧ a = 0 ∧ b = 0 then if fitB m 21 = true then (if (o = 17 ∨ o = 21) ∧ m < 0 ∨ o = 21 ∧ 63 < m then 11 else 0) else 11 else 10)) :
    Says Tryz.prog 72 #[insV o d a b m] (.int .i64 K) := by
  intro w
  obtain ⟨h1, h2, h3, h4, h5, h6, h7, h8, h9, h10⟩ := h
  have C1 := Lib.hid C
  have C2 := Lib.hid (fun w => refFits_yes m 21 w (by omega) (by omega))
  clear C
  have HK := Lib.hid hK
  clear hK
  rcases ho with rfl | rfl | rfl
  all_goals
    go_enter Tryz.func72, Tryz.ntmps72
    go_wp2_with (first | (go_at_call 60; refine (C1.out.at _).mono ?_; rintro e w1 ⟨rfl, hb⟩; obtain ⟨hc, hf⟩ := bcell hb; have hz : w.heap.size < w1.heap.size := by (have := hb.size; simp at this; omega)) | (go_at_call 85; refine (C2.out _).mono ?_; rintro e w2 ⟨rfl, rfl⟩))
  all_goals go_ret
  all_goals refine ⟨ret_int ?_, end_two (by assumption) (by assumption)⟩
  all_goals refine Eq.trans ?_ HK.out.symm
  all_goals clear C1 C2 HK
  all_goals try simp only [bne_iff_ne, ne_eq, beq_iff_eq, bne_eq_false_iff_eq] at *
  all_goals (repeat' split) <;> first | rfl | omega | (exfalso; simp_all; done) | (exfalso; simp_all; omega)
set_option maxHeartbeats 2000000 in
theorem refCheck_jr (o d a b m K : Int) (C : UsesAt o false true false false) (h : In7 o d a b m) (ho : (o == 17) = false) (ho' : (o == 21) = false) (hK : K = (if d = 0 ∧ b = 0 ∧ m = 0 then if fitB m 21 = true then 0 else 11 else 10)) :
    Says Tryz.prog 72 #[insV o d a b m] (.int .i64 K) := by
  intro w
  obtain ⟨h1, h2, h3, h4, h5, h6, h7, h8, h9, h10⟩ := h
  have C1 := Lib.hid C
  have C2 := Lib.hid (fun w => refFits_yes m 21 w (by omega) (by omega))
  clear C
  have HK := Lib.hid hK
  clear hK
  all_goals
    go_enter Tryz.func72, Tryz.ntmps72
    go_wp2_with (first | (go_at_call 60; refine (C1.out.at _).mono ?_; rintro e w1 ⟨rfl, hb⟩; obtain ⟨hc, hf⟩ := bcell hb; have hz : w.heap.size < w1.heap.size := by (have := hb.size; simp at this; omega)) | (go_at_call 85; refine (C2.out _).mono ?_; rintro e w2 ⟨rfl, rfl⟩))
  all_goals go_ret
  all_goals refine ⟨ret_int ?_, end_two (by assumption) (by assumption)⟩
  all_goals refine Eq.trans ?_ HK.out.symm
  all_goals clear C1 C2 HK
  all_goals try simp only [bne_iff_ne, ne_eq, beq_iff_eq, bne_eq_false_iff_eq] at *
  all_goals (repeat' split) <;> first | rfl | omega | (exfalso; simp_all; done) | (exfalso; simp_all; omega)
end Go.Proofs.YtdfafllldanfiaaGreat.IF
