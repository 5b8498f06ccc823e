/-
  The law of layer 2 on order, walked.
-/
import Derived.Test.YtenilpofmfcofaaNameLess
set_option linter.unusedSimpArgs false
set_option linter.unusedVariables false
namespace Go.Proofs.Ytenilpofmfcofaa.WK
open Go.RowKit NM NF

theorem NameOrder_walk (a b c : ByteArray) (ha : a.size ≤ maxLen) (hb0 : b.size ≤ maxLen) (hc : c.size ≤ maxLen) (w : World) :
    Calls Try.prog 6 #[.string a, .string b, .string c] w fun e w' => e = .returned (.bool true) ∧ Below w.heap.size w w' := by
  unfold maxLen at ha hb0 hc
  have hb := Below.refl w.heap.size w
  have AW := awakeS
  have K1 := checkS a (by omega) _ rfl
  have K2 := checkS b (by omega) _ rfl
  have K3 := checkS c (by omega) _ rfl
  have L0 := lessS a a (by omega) (by omega) false (lessB_irr _)
  by_cases h1 : chk a.data.toList = 0
  · by_cases h2 : chk b.data.toList = 0
    · by_cases h3 : chk c.data.toList = 0
      · rw [h1] at K1
        rw [h2] at K2
        rw [h3] at K3
        have L1 := lessS a b (by omega) (by omega) _ rfl
        have L2 := lessS b a (by omega) (by omega) _ rfl
        have L3 := lessS b c (by omega) (by omega) _ rfl
        have L4 := lessS a c (by omega) (by omega) _ rfl
        have TR := lessB_trans _ _ _ h1 h2 h3
        have AS := lessB_asym _ _ h1 h2
        have TT := lessB_tri _ _ h1 h2
        by_cases e : a = b
        · subst e
          rw [lessB_irr] at L1 L2
          clear TR AS TT L4 K2 h1 h2 h3
          generalize lessB a.data.toList c.data.toList = z at *
          go_enter Try.func6, Try.ntmps6
          go_wp2_with (first | (go_at_call 8; first | (with_reducible refine (inw K1 w _ hb).mono ?_; rintro e w1 ⟨rfl, hb⟩) | (with_reducible refine (inw K3 w _ hb).mono ?_; rintro e w1 ⟨rfl, hb⟩)) | (go_at_call 17; first | (with_reducible refine (inw L0 w _ hb).mono ?_; rintro e w1 ⟨rfl, hb⟩) | (with_reducible refine (inw L3 w _ hb).mono ?_; rintro e w1 ⟨rfl, hb⟩)) | (go_at_call 12; refine (inw AW w _ hb).mono ?_; rintro e w1 ⟨rfl, hb⟩))
          go_ret
          exact ⟨rfl, hb⟩
        · have e1 : (a.toList == b.toList) = false := by
            rw [Lib.toList_data, Lib.toList_data, beq_eq_false_iff_ne]
            intro h
            exact e (by rw [← bs_of a, ← bs_of b, h])
          have TT2 := TT (fun h => e (by rw [← bs_of a, ← bs_of b, h]))
          clear TT L0 h1 h2 h3 e
          generalize lessB a.data.toList b.data.toList = x at *
          generalize lessB b.data.toList a.data.toList = y at *
          generalize lessB b.data.toList c.data.toList = z at *
          generalize lessB a.data.toList c.data.toList = v at *
          have HE := Lib.hid e1
          cases x with
          | true =>
            have hy := AS rfl
            subst hy
            cases z with
            | true =>
              have hv := TR rfl rfl
              subst hv
              clear TR AS TT2 HE
              go_enter Try.func6, Try.ntmps6
              go_wp2_with (first | (go_at_call 8; first | (with_reducible refine (inw K1 w _ hb).mono ?_; rintro e w1 ⟨rfl, hb⟩) | (with_reducible refine (inw K2 w _ hb).mono ?_; rintro e w1 ⟨rfl, hb⟩) | (with_reducible refine (inw K3 w _ hb).mono ?_; rintro e w1 ⟨rfl, hb⟩)) | (go_at_call 17; first | (with_reducible refine (inw L1 w _ hb).mono ?_; rintro e w1 ⟨rfl, hb⟩) | (with_reducible refine (inw L2 w _ hb).mono ?_; rintro e w1 ⟨rfl, hb⟩) | (with_reducible refine (inw L3 w _ hb).mono ?_; rintro e w1 ⟨rfl, hb⟩) | (with_reducible refine (inw L4 w _ hb).mono ?_; rintro e w1 ⟨rfl, hb⟩)) | (go_at_call 12; refine (inw AW w _ hb).mono ?_; rintro e w1 ⟨rfl, hb⟩))
              go_ret
              exact ⟨rfl, hb⟩
            | false =>
              clear TR AS TT2 HE L4
              go_enter Try.func6, Try.ntmps6
              go_wp2_with (first | (go_at_call 8; first | (with_reducible refine (inw K1 w _ hb).mono ?_; rintro e w1 ⟨rfl, hb⟩) | (with_reducible refine (inw K2 w _ hb).mono ?_; rintro e w1 ⟨rfl, hb⟩) | (with_reducible refine (inw K3 w _ hb).mono ?_; rintro e w1 ⟨rfl, hb⟩)) | (go_at_call 17; first | (with_reducible refine (inw L1 w _ hb).mono ?_; rintro e w1 ⟨rfl, hb⟩) | (with_reducible refine (inw L2 w _ hb).mono ?_; rintro e w1 ⟨rfl, hb⟩) | (with_reducible refine (inw L3 w _ hb).mono ?_; rintro e w1 ⟨rfl, hb⟩)) | (go_at_call 12; refine (inw AW w _ hb).mono ?_; rintro e w1 ⟨rfl, hb⟩))
              go_ret
              exact ⟨rfl, hb⟩
          | false =>
            have hy : y = true := by rcases TT2 with h | h; cases h; exact h
            subst hy
            clear TR AS TT2 HE L4
            go_enter Try.func6, Try.ntmps6
            go_wp2_with (first | (go_at_call 8; first | (with_reducible refine (inw K1 w _ hb).mono ?_; rintro e w1 ⟨rfl, hb⟩) | (with_reducible refine (inw K2 w _ hb).mono ?_; rintro e w1 ⟨rfl, hb⟩) | (with_reducible refine (inw K3 w _ hb).mono ?_; rintro e w1 ⟨rfl, hb⟩)) | (go_at_call 17; first | (with_reducible refine (inw L1 w _ hb).mono ?_; rintro e w1 ⟨rfl, hb⟩) | (with_reducible refine (inw L2 w _ hb).mono ?_; rintro e w1 ⟨rfl, hb⟩) | (with_reducible refine (inw L3 w _ hb).mono ?_; rintro e w1 ⟨rfl, hb⟩)) | (go_at_call 12; refine (inw AW w _ hb).mono ?_; rintro e w1 ⟨rfl, hb⟩))
            go_ret
            exact ⟨rfl, hb⟩
      · rw [h1] at K1
        rw [h2] at K2
        have h3' : (chk c.data.toList != 0) = true := by simpa using h3
        clear h1 h2 h3
        generalize chk c.data.toList = k at *
        go_enter Try.func6, Try.ntmps6
        go_wp2_with (first | (go_at_call 8; first | (with_reducible refine (inw K1 w _ hb).mono ?_; rintro e w1 ⟨rfl, hb⟩) | (with_reducible refine (inw K2 w _ hb).mono ?_; rintro e w1 ⟨rfl, hb⟩) | (with_reducible refine (inw K3 w _ hb).mono ?_; rintro e w1 ⟨rfl, hb⟩)) | (go_at_call 17; first | (with_reducible refine (inw L0 w _ hb).mono ?_; rintro e w1 ⟨rfl, hb⟩)) | (go_at_call 12; refine (inw AW w _ hb).mono ?_; rintro e w1 ⟨rfl, hb⟩))
        go_ret
        exact ⟨rfl, hb⟩
    · rw [h1] at K1
      have h2' : (chk b.data.toList != 0) = true := by simpa using h2
      clear h1 h2 K3
      generalize chk b.data.toList = k at *
      go_enter Try.func6, Try.ntmps6
      go_wp2_with (first | (go_at_call 8; first | (with_reducible refine (inw K1 w _ hb).mono ?_; rintro e w1 ⟨rfl, hb⟩) | (with_reducible refine (inw K2 w _ hb).mono ?_; rintro e w1 ⟨rfl, hb⟩)) | (go_at_call 17; first | (with_reducible refine (inw L0 w _ hb).mono ?_; rintro e w1 ⟨rfl, hb⟩)) | (go_at_call 12; refine (inw AW w _ hb).mono ?_; rintro e w1 ⟨rfl, hb⟩))
      go_ret
      exact ⟨rfl, hb⟩
  · have h1' : (chk a.data.toList != 0) = true := by simpa using h1
    clear h1 K2 K3
    generalize chk a.data.toList = k at *
    go_enter Try.func6, Try.ntmps6
    go_wp2_with (first | (go_at_call 8; first | (with_reducible refine (inw K1 w _ hb).mono ?_; rintro e w1 ⟨rfl, hb⟩)) | (go_at_call 17; first | (with_reducible refine (inw L0 w _ hb).mono ?_; rintro e w1 ⟨rfl, hb⟩)) | (go_at_call 12; refine (inw AW w _ hb).mono ?_; rintro e w1 ⟨rfl, hb⟩))
    go_ret
    exact ⟨rfl, hb⟩
end Go.Proofs.Ytenilpofmfcofaa.WK
