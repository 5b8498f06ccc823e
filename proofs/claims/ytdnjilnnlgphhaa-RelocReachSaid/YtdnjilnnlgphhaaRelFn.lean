/-
  What the small functions of package reloc and of its reference tell, call by call. Nothing here is a statement of the seed.
-/
import Derived.Test.YtdnjilnnlgphhaaIsaFn
import Derived.Test.YtdnjilnnlgphhaaRelMath
set_option linter.unusedSimpArgs false
set_option linter.unusedVariables false
namespace Go.Proofs.Ytdnjilnnlgphhaa.RF
open Go.RowKit WM IM WF IF RM

theorem isWhole_any (k : Int) (w : World) (hk : 0 ≤ k ∧ k ≤ 255) :
    Calls Try.prog 22 #[.int .u8 k] w fun e w' => e = .returned (.bool (whole k)) ∧ w = w' := by
  obtain ⟨h1, h2⟩ := hk
  go_enter Try.func22, Try.ntmps22
  go_wp2
  all_goals go_ret
  all_goals refine ⟨ret_bool ?_, rfl⟩
  all_goals try simp only [beq_iff_eq, beq_eq_false_iff_ne, ne_eq] at *
  all_goals unfold whole
  all_goals rw [Bool.eq_iff_iff]
  all_goals simp
  all_goals omega
theorem inCode_any (k : Int) (w : World) (hk : 0 ≤ k ∧ k ≤ 255) :
    Calls Try.prog 24 #[.int .u8 k] w fun e w' => e = .returned (.bool (inC k)) ∧ w = w' := by
  obtain ⟨h1, h2⟩ := hk
  go_enter Try.func24, Try.ntmps24
  go_wp2
  all_goals go_ret
  all_goals refine ⟨ret_bool ?_, rfl⟩
  all_goals try simp only [beq_iff_eq, beq_eq_false_iff_ne, ne_eq] at *
  all_goals unfold inC
  all_goals rw [Bool.eq_iff_iff]
  all_goals simp
  all_goals omega
theorem import_any (k : Int) (w : World) (hk : 0 ≤ k ∧ k ≤ 255) :
    Calls Try.prog 21 #[.int .u8 k] w fun e w' => e = .returned (.bool (imp k)) ∧ w = w' := by
  obtain ⟨h1, h2⟩ := hk
  go_enter Try.func21, Try.ntmps21
  go_wp2
  all_goals go_ret
  all_goals refine ⟨ret_bool ?_, rfl⟩
  all_goals try simp only [beq_iff_eq, beq_eq_false_iff_ne, ne_eq] at *
  all_goals unfold imp
  all_goals rw [Bool.eq_iff_iff]
  all_goals simp
  all_goals omega
theorem op_any (k : Int) (w : World) (hk : 0 ≤ k ∧ k ≤ 255) :
    Calls Try.prog 26 #[.int .u8 k] w fun e w' => e = .returned (.int .u8 (opK k)) ∧ w = w' := by
  obtain ⟨h1, h2⟩ := hk
  go_enter Try.func26, Try.ntmps26
  go_wp2
  all_goals go_ret
  all_goals refine ⟨ret_int ?_, rfl⟩
  all_goals try simp only [beq_iff_eq, beq_eq_false_iff_ne, ne_eq] at *
  all_goals unfold opK
  all_goals simp
  all_goals omega
theorem reach_any (k : Int) (w : World) (hk : 0 ≤ k ∧ k ≤ 255) :
    Calls Try.prog 14 #[.int .u8 k] w fun e w' => e = .returned (.int .u32 (rch k)) ∧ w = w' := by
  have C := Lib.hid (fun w => isWhole_any k w hk)
  have E := Lib.hid (show ¬ 7 < k → whole k = !inC k from fun h => whole_inC ⟨hk.1, by omega⟩)
  obtain ⟨h1, h2⟩ := hk
  generalize whole k = q at *
  go_enter Try.func14, Try.ntmps14
  go_wp2_with (first | (go_at_call 22; refine (C.out _).mono ?_; rintro e w' ⟨rfl, rfl⟩))
  all_goals go_ret
  all_goals refine ⟨ret_int ?_, rfl⟩
  all_goals have E := E.out
  all_goals unfold rch
  all_goals first | (rw [if_pos (by omega)]; done) | (rw [if_neg (by omega), show inC k = !q from by rw [E (by omega)]; simp]; simp_all)
theorem refReach_any (k : Int) (w : World) (hk : 0 ≤ k ∧ k ≤ 255) :
    Calls Try.prog 15 #[.int .u8 k] w fun e w' => e = .returned (.int .u32 (rch k)) ∧ w = w' := by
  have C := Lib.hid (fun w => inCode_any k w hk)
  obtain ⟨h1, h2⟩ := hk
  unfold rch
  generalize inC k = q at *
  go_enter Try.func15, Try.ntmps15
  go_wp2_with (first | (go_at_call 24; refine (C.out _).mono ?_; rintro e w' ⟨rfl, rfl⟩))
  all_goals go_ret
  all_goals refine ⟨ret_int ?_, rfl⟩
  all_goals first | rfl | (split <;> (try omega) <;> simp_all)
theorem blank_any (k d : Int) (hk : 0 ≤ k ∧ k ≤ 255) (hd : 0 ≤ d ∧ d ≤ 255) :
    Says Try.prog 23 #[.int .u8 k, .int .u8 d] (insV (opK k) (dK k d) 0 0 0) := by
  intro w
  obtain ⟨h1, h2⟩ := hk
  obtain ⟨h3, h4⟩ := hd
  go_enter Try.func23, Try.ntmps23
  go_wp2
  all_goals try simp only [beq_iff_eq, beq_eq_false_iff_ne, ne_eq] at *
  all_goals refine bodyPost_ret (v := insV (opK k) (dK k d) 0 0 0) ?_ rfl ⟨rfl, ?_⟩
  all_goals first | exact below_new _ _ | (simp [results, Try.results23, go_sem, opK, dK, *]; done)
end Go.Proofs.Ytdnjilnnlgphhaa.RF
