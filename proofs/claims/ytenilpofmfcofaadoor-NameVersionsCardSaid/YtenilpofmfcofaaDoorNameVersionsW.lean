/-
  The law of layer 2 on versions' order, walked.
-/
import Derived.Test.YtenilpofmfcofaaDoorNameDoorWalks
set_option linter.unusedSimpArgs false
set_option linter.unusedVariables false
namespace Go.Proofs.YtenilpofmfcofaaDoor.WK
open Go.RowKit NM NF

theorem less_text (a b l : List UInt8) (m n : Nat) (ha : chk a = 0) (hb : chk b = 0) (pa : pre a = l) (pb : pre b = l) (va : ver (post a) = m) (vb : ver (post b) = n) : lessB a b = decide (m < n) := by
  rw [lessB_names a b ha hb, pa, pb, va, vb, less_irr]
  simp
set_option maxRecDepth 100000 in
set_option maxHeartbeats 2000000 in
theorem NameVersions_walk (s : ByteArray) (a b : Int) (hs : s.size ≤ 140737488355328) (ha : 0 ≤ a ∧ a ≤ 65535) (hb0 : 0 ≤ b ∧ b ≤ 65535) (w : World) (T : Tab w) :
    Calls Tryd.prog 5 #[.string s, .int .u16 a, .int .u16 b] w fun e w' => e = .returned (.bool true) ∧ Below w.heap.size w w' := by
  have HT := Lib.hid T
  clear T
  obtain ⟨ha1, ha2⟩ := ha
  obtain ⟨hb1, hb2⟩ := hb0
  have hb := Below.refl w.heap.size w
  have AW := awakeS
  have hm0 : 0 ≤ a % 999 := by omega
  have hm1 : a % 999 < 999 := by omega
  have hn0 : 0 ≤ b % 999 := by omega
  have hn1 : b % 999 < 999 := by omega
  have J1 := joinS s (1 + a % 999) hs
  have J2 := joinS s (1 + b % 999) hs
  have J3 := joinS s 0 hs
  by_cases e1 : (joinV s.data.toList (1 + a % 999)).2 = 0
  · by_cases e2 : (joinV s.data.toList (1 + b % 999)).2 = 0
    · by_cases e3 : (joinV s.data.toList 0).2 = 0
      · obtain ⟨_, _, _, x1, x2, x3, x4⟩ := joinV_ok _ _ e1
        obtain ⟨_, _, _, y1, y2, y3, y4⟩ := joinV_ok _ _ e2
        obtain ⟨_, _, _, z1, z2, z3, z4⟩ := joinV_ok _ _ e3
        rw [e1] at J1
        rw [e2] at J2
        rw [e3] at J3
        rw [← x1] at x2 x3 x4
        rw [← y1] at y2 y3 y4
        rw [← z1] at z2 z3 z4
        have lx := joinV_len s.data.toList (1 + a % 999)
        have ly := joinV_len s.data.toList (1 + b % 999)
        have lz := joinV_len s.data.toList 0
        rw [size_list] at lx ly lz
        have L1 := lessS (bs (joinV s.data.toList (1 + a % 999)).1) (bs (joinV s.data.toList (1 + b % 999)).1) (by rw [bs_size]; omega) (by rw [bs_size]; omega) (decide (1 + a % 999 < 1 + b % 999)) (by
          rw [bs_list, bs_list, less_text _ _ _ _ _ x2 y2 x3 y3 x4 y4]
          congr 1
          simp
          omega)
        have L2 := lessS (bs (joinV s.data.toList 0).1) (bs (joinV s.data.toList (1 + a % 999)).1) (by rw [bs_size]; omega) (by rw [bs_size]; omega) true (by
          rw [bs_list, bs_list, less_text _ _ _ _ _ z2 x2 z3 x3 z4 x4]
          simp
          omega)
        have L3 := lessS (bs (joinV s.data.toList (1 + a % 999)).1) (bs (joinV s.data.toList 0).1) (by rw [bs_size]; omega) (by rw [bs_size]; omega) false (by
          rw [bs_list, bs_list, less_text _ _ _ _ _ x2 z2 x3 z3 x4 z4]
          simp)
        clear e1 e2 e3 x1 x2 x3 x4 y1 y2 y3 y4 z1 z2 z3 z4 lx ly lz
        generalize bs (joinV s.data.toList (1 + a % 999)).1 = x at *
        generalize bs (joinV s.data.toList (1 + b % 999)).1 = y at *
        generalize bs (joinV s.data.toList 0).1 = z at *
        by_cases hlt : a % 999 < b % 999
        · rw [decide_eq_true (by omega)] at L1
          have hlt' : 1 + a % 999 < 1 + b % 999 := by omega
          go_enter Tryd.func5, Tryd.ntmps5
          go_wp2_with (first | (go_at_call 6; first | (with_reducible refine (inT J1 w HT _ hb).mono ?_; rintro e w1 ⟨rfl, hb⟩) | (with_reducible refine (inT J2 w HT _ hb).mono ?_; rintro e w1 ⟨rfl, hb⟩) | (with_reducible refine (inT J3 w HT _ hb).mono ?_; rintro e w1 ⟨rfl, hb⟩)) | (go_at_call 11; first | (with_reducible refine (inw L1 w _ hb).mono ?_; rintro e w1 ⟨rfl, hb⟩) | (with_reducible refine (inw L2 w _ hb).mono ?_; rintro e w1 ⟨rfl, hb⟩) | (with_reducible refine (inw L3 w _ hb).mono ?_; rintro e w1 ⟨rfl, hb⟩)) | (go_at_call 8; refine (inw AW w _ hb).mono ?_; rintro e w1 ⟨rfl, hb⟩))
          go_ret
          exact ⟨rfl, hb⟩
        · rw [decide_eq_false (by omega)] at L1
          have hlt' : ¬ 1 + a % 999 < 1 + b % 999 := by omega
          go_enter Tryd.func5, Tryd.ntmps5
          go_wp2_with (first | (go_at_call 6; first | (with_reducible refine (inT J1 w HT _ hb).mono ?_; rintro e w1 ⟨rfl, hb⟩) | (with_reducible refine (inT J2 w HT _ hb).mono ?_; rintro e w1 ⟨rfl, hb⟩) | (with_reducible refine (inT J3 w HT _ hb).mono ?_; rintro e w1 ⟨rfl, hb⟩)) | (go_at_call 11; first | (with_reducible refine (inw L1 w _ hb).mono ?_; rintro e w1 ⟨rfl, hb⟩) | (with_reducible refine (inw L2 w _ hb).mono ?_; rintro e w1 ⟨rfl, hb⟩) | (with_reducible refine (inw L3 w _ hb).mono ?_; rintro e w1 ⟨rfl, hb⟩)) | (go_at_call 8; refine (inw AW w _ hb).mono ?_; rintro e w1 ⟨rfl, hb⟩))
          go_ret
          exact ⟨ret_bool (by simp; omega), hb⟩
      · have h' : ((joinV s.data.toList 0).2 != 0) = true := by simpa using e3
        rw [e1] at J1
        rw [e2] at J2
        clear e1 e2 e3
        generalize bs (joinV s.data.toList (1 + a % 999)).1 = x at *
        generalize bs (joinV s.data.toList (1 + b % 999)).1 = y at *
        generalize bs (joinV s.data.toList 0).1 = z at *
        generalize (joinV s.data.toList 0).2 = k at *
        go_enter Tryd.func5, Tryd.ntmps5
        go_wp2_with (first | (go_at_call 6; first | (with_reducible refine (inT J1 w HT _ hb).mono ?_; rintro e w1 ⟨rfl, hb⟩) | (with_reducible refine (inT J2 w HT _ hb).mono ?_; rintro e w1 ⟨rfl, hb⟩) | (with_reducible refine (inT J3 w HT _ hb).mono ?_; rintro e w1 ⟨rfl, hb⟩)) | (go_at_call 8; refine (inw AW w _ hb).mono ?_; rintro e w1 ⟨rfl, hb⟩))
        go_ret
        exact ⟨rfl, hb⟩
    · have h' : ((joinV s.data.toList (1 + b % 999)).2 != 0) = true := by simpa using e2
      rw [e1] at J1
      clear e1 e2
      generalize bs (joinV s.data.toList (1 + a % 999)).1 = x at *
      generalize bs (joinV s.data.toList (1 + b % 999)).1 = y at *
      generalize bs (joinV s.data.toList 0).1 = z at *
      generalize (joinV s.data.toList 0).2 = k at *
      generalize (joinV s.data.toList (1 + b % 999)).2 = j at *
      go_enter Tryd.func5, Tryd.ntmps5
      go_wp2_with (first | (go_at_call 6; first | (with_reducible refine (inT J1 w HT _ hb).mono ?_; rintro e w1 ⟨rfl, hb⟩) | (with_reducible refine (inT J2 w HT _ hb).mono ?_; rintro e w1 ⟨rfl, hb⟩) | (with_reducible refine (inT J3 w HT _ hb).mono ?_; rintro e w1 ⟨rfl, hb⟩)) | (go_at_call 8; refine (inw AW w _ hb).mono ?_; rintro e w1 ⟨rfl, hb⟩))
      go_ret
      exact ⟨rfl, hb⟩
  · have h' : ((joinV s.data.toList (1 + a % 999)).2 != 0) = true := by simpa using e1
    clear e1
    generalize bs (joinV s.data.toList (1 + a % 999)).1 = x at *
    generalize bs (joinV s.data.toList (1 + b % 999)).1 = y at *
    generalize bs (joinV s.data.toList 0).1 = z at *
    generalize (joinV s.data.toList 0).2 = k at *
    generalize (joinV s.data.toList (1 + b % 999)).2 = j at *
    generalize (joinV s.data.toList (1 + a % 999)).2 = i at *
    go_enter Tryd.func5, Tryd.ntmps5
    go_wp2_with (first | (go_at_call 6; first | (with_reducible refine (inT J1 w HT _ hb).mono ?_; rintro e w1 ⟨rfl, hb⟩) | (with_reducible refine (inT J2 w HT _ hb).mono ?_; rintro e w1 ⟨rfl, hb⟩) | (with_reducible refine (inT J3 w HT _ hb).mono ?_; rintro e w1 ⟨rfl, hb⟩)) | (go_at_call 8; refine (inw AW w _ hb).mono ?_; rintro e w1 ⟨rfl, hb⟩))
    go_ret
    exact ⟨rfl, hb⟩
end Go.Proofs.YtenilpofmfcofaaDoor.WK
