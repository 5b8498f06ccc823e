/-
  The reference's Check, by which parts an operation uses, further. Nothing here is a statement of the seed.
-/
import Derived.Test.YtdnjilnnlgphhaaIsaRef
set_option linter.unusedSimpArgs false
set_option linter.unusedVariables false
namespace Go.Proofs.Ytdnjilnnlgphhaa.IF
open Go.RowKit WM IM WF

set_option maxHeartbeats 2000000 in
theorem refCheck_dai (o d a b m K : Int) (C : UsesAt o true true false true) (h : In7 o d a b m) (ho : (o == 17) = false) (ho' : (o == 21) = false) (hK : K = (if b = 0 then if fitB m 21 = true then 0 else 11 else 10)) :
    Says Try.prog 36 #[insV o d a b m] (.int .i64 K) := by
  intro w
  obtain ⟨h1, h2, h3, h4, h5, h6, h7, h8, h9, h10⟩ := h
  have C1 := Lib.hid C
  have C2 := Lib.hid (fun w => refFits_yes m 21 w (by omega) (by omega))
  clear C
  have HK := Lib.hid hK
  clear hK
  all_goals
    go_enter Try.func36, Try.ntmps36
    go_wp2_with (first | (go_at_call 34; refine (C1.out.at _).mono ?_; rintro e w1 ⟨rfl, hb⟩; obtain ⟨hc, hf⟩ := bcell hb; have hz : w.heap.size < w1.heap.size := by (have := hb.size; simp at this; omega)) | (go_at_call 48; refine (C2.out _).mono ?_; rintro e w2 ⟨rfl, rfl⟩))
  all_goals go_ret
  all_goals refine ⟨ret_int ?_, end_two (by assumption) (by assumption)⟩
  all_goals refine Eq.trans ?_ HK.out.symm
  all_goals clear C1 C2 HK
  all_goals try simp only [bne_iff_ne, ne_eq, beq_iff_eq, bne_eq_false_iff_eq] at *
  all_goals (repeat' split) <;> first | rfl | omega | (exfalso; simp_all; done) | (exfalso; simp_all; omega)
set_option maxHeartbeats 2000000 in
theorem refCheck_imm (o d a b m K : Int) (C : UsesAt o false false false true) (h : In7 o d a b m) (ho : o = 14 ∨ o = 17 ∨ o = 21) (hK : K = (if d = 0 ∧ a = 0 ∧ b = 0 then if fitB m 21 = true then (if (o = 17 ∨ o = 21) ∧ m < 0 ∨ o = 21 ∧ 63 < m then 11 else 0) else 11 else 10)) :
    Says Try.prog 36 #[insV o d a b m] (.int .i64 K) := by
  intro w
  obtain ⟨h1, h2, h3, h4, h5, h6, h7, h8, h9, h10⟩ := h
  have C1 := Lib.hid C
  have C2 := Lib.hid (fun w => refFits_yes m 21 w (by omega) (by omega))
  clear C
  have HK := Lib.hid hK
  clear hK
  rcases ho with rfl | rfl | rfl
  all_goals
    go_enter Try.func36, Try.ntmps36
    go_wp2_with (first | (go_at_call 34; refine (C1.out.at _).mono ?_; rintro e w1 ⟨rfl, hb⟩; obtain ⟨hc, hf⟩ := bcell hb; have hz : w.heap.size < w1.heap.size := by (have := hb.size; simp at this; omega)) | (go_at_call 48; refine (C2.out _).mono ?_; rintro e w2 ⟨rfl, rfl⟩))
  all_goals go_ret
  all_goals refine ⟨ret_int ?_, end_two (by assumption) (by assumption)⟩
  all_goals refine Eq.trans ?_ HK.out.symm
  all_goals clear C1 C2 HK
  all_goals try simp only [bne_iff_ne, ne_eq, beq_iff_eq, bne_eq_false_iff_eq] at *
  all_goals (repeat' split) <;> first | rfl | omega | (exfalso; simp_all; done) | (exfalso; simp_all; omega)
set_option maxHeartbeats 2000000 in
theorem refCheck_jr (o d a b m K : Int) (C : UsesAt o false true false false) (h : In7 o d a b m) (ho : (o == 17) = false) (ho' : (o == 21) = false) (hK : K = (if d = 0 ∧ b = 0 ∧ m = 0 then if fitB m 21 = true then 0 else 11 else 10)) :
    Says Try.prog 36 #[insV o d a b m] (.int .i64 K) := by
  intro w
  obtain ⟨h1, h2, h3, h4, h5, h6, h7, h8, h9, h10⟩ := h
  have C1 := Lib.hid C
  have C2 := Lib.hid (fun w => refFits_yes m 21 w (by omega) (by omega))
  clear C
  have HK := Lib.hid hK
  clear hK
  all_goals
    go_enter Try.func36, Try.ntmps36
    go_wp2_with (first | (go_at_call 34; refine (C1.out.at _).mono ?_; rintro e w1 ⟨rfl, hb⟩; obtain ⟨hc, hf⟩ := bcell hb; have hz : w.heap.size < w1.heap.size := by (have := hb.size; simp at this; omega)) | (go_at_call 48; refine (C2.out _).mono ?_; rintro e w2 ⟨rfl, rfl⟩))
  all_goals go_ret
  all_goals refine ⟨ret_int ?_, end_two (by assumption) (by assumption)⟩
  all_goals refine Eq.trans ?_ HK.out.symm
  all_goals clear C1 C2 HK
  all_goals try simp only [bne_iff_ne, ne_eq, beq_iff_eq, bne_eq_false_iff_eq] at *
  all_goals (repeat' split) <;> first | rfl | omega | (exfalso; simp_all; done) | (exfalso; simp_all; omega)
end Go.Proofs.Ytdnjilnnlgphhaa.IF
