/-
  The laws of layer 2 on checks, stems and versions, small letters, walked.
-/
import Derived.Test.YtenilpofmfcofaaNameOrderW
import Derived.Test.YtenilpofmfcofaaNameRef4
import Derived.Test.YtenilpofmfcofaaNameFold
set_option linter.unusedSimpArgs false
set_option linter.unusedVariables false
namespace Go.Proofs.Ytenilpofmfcofaa.WK
open Go.RowKit NM NF

theorem NameChecks_walk (s : ByteArray) (hs : s.size ≤ 1048576) (w : World) :
    Calls Try.prog 3 #[.string s] w fun e w' => e = .returned (.bool true) ∧ Below w.heap.size w w' := by
  have hb := Below.refl w.heap.size w
  have AW := awakeS
  have K1 := checkS s (by omega) _ rfl
  have K2 := refCheckS s (by omega) _ rfl
  have K3 : Says Try.prog 10 #[.string s] (.int .i64 ((runes s.data.toList).length : Nat)) := fun w => nameRunes_any s w (by omega)
  have K4 : Says Try.prog 11 #[.string s] (.int .i64 ((runes s.data.toList).length : Nat)) := fun w => refRunes_any s w (by omega)
  generalize (runes s.data.toList).length = n at *
  have hc := chk_cases s.data.toList
  have hk : -9223372036854775808 ≤ chk s.data.toList ∧ chk s.data.toList ≤ 9223372036854775807 := by omega
  clear hc
  generalize chk s.data.toList = k at *
  obtain ⟨hk1, hk2⟩ := hk
  go_enter Try.func3, Try.ntmps3
  go_wp2_with (first | (go_at_call 8; refine (inw K1 w _ hb).mono ?_; rintro e w1 ⟨rfl, hb⟩) | (go_at_call 9; refine (inw K2 w _ hb).mono ?_; rintro e w1 ⟨rfl, hb⟩) | (go_at_call 10; refine (inw K3 w _ hb).mono ?_; rintro e w1 ⟨rfl, hb⟩) | (go_at_call 11; refine (inw K4 w _ hb).mono ?_; rintro e w1 ⟨rfl, hb⟩) | (go_at_call 12; refine (inw AW w _ hb).mono ?_; rintro e w1 ⟨rfl, hb⟩))
  go_ret
  exact ⟨rfl, hb⟩
theorem NameSplits_walk (s : ByteArray) (hs : s.size ≤ 1048576) (w : World) :
    Calls Try.prog 4 #[.string s] w fun e w' => e = .returned (.bool true) ∧ Below w.heap.size w w' := by
  have hb := Below.refl w.heap.size w
  have AW := awakeS
  have S : ∃ x v k, Says Try.prog 13 #[.string s] (.tuple #[.string x, .int .i64 v, .int .i64 k]) ∧ Says Try.prog 14 #[.string s] (.tuple #[.string x, .int .i64 v, .int .i64 k]) ∧ -9223372036854775808 ≤ k ∧ k ≤ 9223372036854775807 := by
    have hc := chk_cases s.data.toList
    by_cases h : chk s.data.toList = 0
    · exact ⟨_, _, _, split_yes s (by omega) h, refSplit_yes s (by omega) h, by omega, by omega⟩
    · exact ⟨_, _, _, split_no s (by omega) _ rfl h, refSplit_no s (by omega) _ rfl h, by omega, by omega⟩
  obtain ⟨x, v, k, K1, K2, hk1, hk2⟩ := S
  go_enter Try.func4, Try.ntmps4
  go_wp2_with (first | (go_at_call 13; refine (inw K1 w _ hb).mono ?_; rintro e w1 ⟨rfl, hb⟩) | (go_at_call 14; refine (inw K2 w _ hb).mono ?_; rintro e w1 ⟨rfl, hb⟩) | (go_at_call 12; refine (inw AW w _ hb).mono ?_; rintro e w1 ⟨rfl, hb⟩))
  go_ret
  exact ⟨rfl, hb⟩
theorem NameFolds_walk (a b : ByteArray) (ha : a.size ≤ 1048576) (hb0 : b.size ≤ 1048576) (w : World) :
    Calls Try.prog 5 #[.string a, .string b] w fun e w' => e = .returned (.bool true) ∧ Below w.heap.size w w' := by
  have hb := Below.refl w.heap.size w
  have AW := awakeS
  have K1 : Says Try.prog 15 #[.string a] (.string (bs (fold a.data.toList))) := fun w => fold_any a w (by omega)
  have K2 : Says Try.prog 16 #[.string a] (.string (bs (fold a.data.toList))) := fun w => refFold_any a w (by omega)
  have K3 := lessS a b (by omega) (by omega) _ rfl
  have K4 := refLessS a b (by omega) (by omega) _ rfl
  have K5 := lessS b a (by omega) (by omega) _ rfl
  have K6 := refLessS b a (by omega) (by omega) _ rfl
  generalize lessB a.data.toList b.data.toList = x at *
  generalize lessB b.data.toList a.data.toList = y at *
  generalize bs (fold a.data.toList) = f at *
  go_enter Try.func5, Try.ntmps5
  go_wp2_with (first | (go_at_call 15; refine (inw K1 w _ hb).mono ?_; rintro e w1 ⟨rfl, hb⟩) | (go_at_call 16; refine (inw K2 w _ hb).mono ?_; rintro e w1 ⟨rfl, hb⟩) | (go_at_call 17; first | (with_reducible refine (inw K3 w _ hb).mono ?_; rintro e w1 ⟨rfl, hb⟩) | (with_reducible refine (inw K5 w _ hb).mono ?_; rintro e w1 ⟨rfl, hb⟩)) | (go_at_call 18; first | (with_reducible refine (inw K4 w _ hb).mono ?_; rintro e w1 ⟨rfl, hb⟩) | (with_reducible refine (inw K6 w _ hb).mono ?_; rintro e w1 ⟨rfl, hb⟩)) | (go_at_call 12; refine (inw AW w _ hb).mono ?_; rintro e w1 ⟨rfl, hb⟩))
  go_ret
  exact ⟨rfl, hb⟩
theorem NameFolded_walk (s : ByteArray) (hs : s.size ≤ maxLen) (w : World) :
    Calls Try.prog 7 #[.string s] w fun e w' => e = .returned (.bool true) ∧ Below w.heap.size w w' := by
  unfold maxLen at hs
  have hb := Below.refl w.heap.size w
  have AW := awakeS
  have hf : (bs (fold s.data.toList)).size = s.size := by rw [bs_size, fold_length, size_list]
  have K1 : Says Try.prog 15 #[.string s] (.string (bs (fold s.data.toList))) := fun w => fold_any s w (by omega)
  have K2 : Says Try.prog 15 #[.string (bs (fold s.data.toList))] (.string (bs (fold s.data.toList))) := fun w => by
    have h := fold_any (bs (fold s.data.toList)) w (by omega)
    rw [bs_list, fold_fold] at h
    exact h
  have K3 : Says Try.prog 10 #[.string s] (.int .i64 ((runes s.data.toList).length : Nat)) := fun w => nameRunes_any s w (by omega)
  have K4 : Says Try.prog 10 #[.string (bs (fold s.data.toList))] (.int .i64 ((runes s.data.toList).length : Nat)) := fun w => by
    have h := nameRunes_any (bs (fold s.data.toList)) w (by omega)
    rw [bs_list, runes_fold, List.length_map] at h
    exact h
  have K5 := checkS s (by omega) _ rfl
  have K6 := checkS (bs (fold s.data.toList)) (by omega) (chk s.data.toList) (by rw [bs_list, chk_fold])
  generalize (runes s.data.toList).length = n at *
  generalize chk s.data.toList = k at *
  generalize bs (fold s.data.toList) = f at *
  have hf' : ((f.size : Int) == (s.size : Int)) = true := by simp [hf]
  clear hf
  go_enter Try.func7, Try.ntmps7
  go_wp2_with (first | (go_at_call 15; first | (with_reducible refine (inw K1 w _ hb).mono ?_; rintro e w1 ⟨rfl, hb⟩) | (with_reducible refine (inw K2 w _ hb).mono ?_; rintro e w1 ⟨rfl, hb⟩)) | (go_at_call 10; first | (with_reducible refine (inw K3 w _ hb).mono ?_; rintro e w1 ⟨rfl, hb⟩) | (with_reducible refine (inw K4 w _ hb).mono ?_; rintro e w1 ⟨rfl, hb⟩)) | (go_at_call 8; first | (with_reducible refine (inw K5 w _ hb).mono ?_; rintro e w1 ⟨rfl, hb⟩) | (with_reducible refine (inw K6 w _ hb).mono ?_; rintro e w1 ⟨rfl, hb⟩)) | (go_at_call 12; refine (inw AW w _ hb).mono ?_; rintro e w1 ⟨rfl, hb⟩))
  go_ret
  exact ⟨rfl, hb⟩
end Go.Proofs.Ytenilpofmfcofaa.WK
