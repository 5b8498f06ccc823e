/-
  The laws of layer 2 on Join, walked.
-/
import Derived.Test.YtenilpofmfcofaaDoorNameJoin2
set_option linter.unusedSimpArgs false
set_option linter.unusedVariables false
namespace Go.Proofs.YtenilpofmfcofaaDoor.WK
open Go.RowKit NM NF

/-- what Join tells of a text and a number -/
def joinV (l : List UInt8) (n : Int) : List UInt8 × Int :=
  if n < 0 ∨ 999 < n then ([], 2) else if hasAt l then ([], 6) else if chk (text l n.toNat) = 0 then (text l n.toNat, 0) else ([], chk (text l n.toNat))
theorem joinS (s : ByteArray) (n : Int) (hs : s.size ≤ 140737488355328) : SaysT 6 #[.string s, .int .i64 n] (.tuple #[.string (bs (joinV s.data.toList n).1), .int .i64 (joinV s.data.toList n).2]) := by
  unfold joinV
  by_cases h : n < 0 ∨ 999 < n
  · rw [if_pos h]; exact saysT (join_arg s n h)
  · rw [if_neg h]
    obtain ⟨m, rfl⟩ := Int.eq_ofNat_of_zero_le (show 0 ≤ n by omega)
    cases ha : hasAt s.data.toList with
    | true => rw [if_pos rfl]; exact saysT (join_at s m (by omega) (by omega) ha)
    | false =>
      rw [if_neg (by simp), Int.toNat_natCast]
      have J := join_text s m hs (by omega) ha _ rfl
      by_cases hk : chk (text s.data.toList m) = 0
      · rw [if_pos hk] at J ⊢
        rw [hk] at J
        exact J
      · rw [if_neg hk] at J ⊢
        exact J
theorem refJoinS (s : ByteArray) (n : Int) (hs : s.size ≤ 1048576) : Says Tryd.prog 7 #[.string s, .int .i64 n] (.tuple #[.string (bs (joinV s.data.toList n).1), .int .i64 (joinV s.data.toList n).2]) := by
  unfold joinV
  by_cases h : n < 0 ∨ 999 < n
  · rw [if_pos h]; exact refJoin_arg s n h
  · rw [if_neg h]
    obtain ⟨m, rfl⟩ := Int.eq_ofNat_of_zero_le (show 0 ≤ n by omega)
    cases ha : hasAt s.data.toList with
    | true => rw [if_pos rfl]; exact refJoin_at s hs m (by omega) (by omega) ha
    | false =>
      rw [if_neg (by simp), Int.toNat_natCast]
      have J := refJoin_text s m hs (by omega) ha _ rfl
      by_cases hk : chk (text s.data.toList m) = 0
      · rw [if_pos hk] at J ⊢
        rw [hk] at J
        exact J
      · rw [if_neg hk] at J ⊢
        exact J
theorem joinV_err (l : List UInt8) (n : Int) : 0 ≤ (joinV l n).2 ∧ (joinV l n).2 ≤ 6 := by
  unfold joinV
  split
  · simp
  · split
    · simp
    · split
      · simp
      · simp only []
        rcases chk_cases (text l n.toNat) with h | h | h <;> rw [h] <;> omega
/-- what Join made is split into what it was made of -/
theorem joinV_ok (l : List UInt8) (n : Int) (h : (joinV l n).2 = 0) : 0 ≤ n ∧ n ≤ 999 ∧ hasAt l = false ∧ (joinV l n).1 = text l n.toNat ∧ chk (text l n.toNat) = 0 ∧ pre (text l n.toNat) = l ∧ ver (post (text l n.toNat)) = n.toNat := by
  unfold joinV at h ⊢
  by_cases h1 : n < 0 ∨ 999 < n
  · rw [if_pos h1] at h; cases h
  · rw [if_neg h1] at h ⊢
    cases ha : hasAt l with
    | true => rw [ha, if_pos rfl] at h; cases h
    | false =>
      rw [ha, if_neg (by simp)] at h
      rw [if_neg (by simp)]
      have hp := text_pre l n.toNat ha (by omega)
      by_cases hk : chk (text l n.toNat) = 0
      · rw [if_pos hk]
        exact ⟨by omega, by omega, rfl, rfl, hk, hp.1, hp.2.1⟩
      · rw [if_neg hk] at h
        exact absurd h hk
theorem joinV_bad (l : List UInt8) (n : Int) (h : (joinV l n).2 ≠ 0) : (joinV l n).1 = [] := by
  unfold joinV at h ⊢
  split
  · rfl
  · rename_i h1
    rw [if_neg h1] at h
    split
    · rfl
    · rename_i h2
      rw [if_neg h2] at h
      split
      · rename_i h3
        rw [if_pos h3] at h
        exact absurd rfl h
      · rfl
theorem joinV_len (l : List UInt8) (n : Int) : (joinV l n).1.length ≤ l.length + 4 := by
  unfold joinV
  split
  · simp
  · split
    · simp
    · split
      · exact text_len _ _
      · simp
/-- the stem and the version of a name make the name -/
theorem join_split (l : List UInt8) (h : chk l = 0) : joinV (pre l) (ver (post l) : Nat) = (l, 0) := by
  have hv := ver_le (post l)
  have ht := text_name l (chk_name l h)
  unfold joinV
  rw [if_neg (by omega), pre_hasAt, if_neg (by simp), Int.toNat_natCast, ht, if_pos h]
theorem NameJoins_walk (s : ByteArray) (n : Int) (hs : s.size ≤ 1048576) (hn : -9223372036854775808 ≤ n ∧ n ≤ 9223372036854775807) (w : World) (T : Tab w) :
    Calls Tryd.prog 3 #[.string s, .int .i64 n] w fun e w' => e = .returned (.bool true) ∧ Below w.heap.size w w' := by
  have HT := Lib.hid T
  clear T
  have hb := Below.refl w.heap.size w
  have AW := awakeS
  have K1 := joinS s n (by omega)
  have K2 := refJoinS s n hs
  obtain ⟨e1, e2⟩ := joinV_err s.data.toList n
  generalize (joinV s.data.toList n).2 = k at *
  generalize (joinV s.data.toList n).1 = t at *
  go_enter Tryd.func3, Tryd.ntmps3
  go_wp2_with (first | (go_at_call 6; refine (inT K1 w HT _ hb).mono ?_; rintro e w1 ⟨rfl, hb⟩) | (go_at_call 7; refine (inw K2 w _ hb).mono ?_; rintro e w1 ⟨rfl, hb⟩) | (go_at_call 8; refine (inw AW w _ hb).mono ?_; rintro e w1 ⟨rfl, hb⟩))
  go_ret
  exact ⟨rfl, hb⟩
/-- both ways behind Join(stem, k) -/
theorem back_ways (stem : ByteArray) (k : Int) (hs : stem.size ≤ 140737488355328) :
    (∃ t : ByteArray, SaysT 6 #[.string stem, .int .i64 k] (.tuple #[.string t, .int .i64 0]) ∧ Says Tryd.prog 9 #[.string t] (.tuple #[.string stem, .int .i64 k, .int .i64 0])) ∨
    (∃ f : Int, (f != 0) = true ∧ SaysT 6 #[.string stem, .int .i64 k] (.tuple #[.string ⟨#[]⟩, .int .i64 f]) ∧ Says Tryd.prog 9 #[.string ⟨#[]⟩] (.tuple #[.string ⟨#[]⟩, .int .i64 0, .int .i64 6])) := by
  have J := joinS stem k hs
  by_cases h : (joinV stem.data.toList k).2 = 0
  · obtain ⟨h0, h1, h2, h3, h4, h5, h6⟩ := joinV_ok _ _ h
    refine .inl ⟨bs (joinV stem.data.toList k).1, by rw [h] at J; exact J, ?_⟩
    have hl := text_len stem.data.toList k.toNat
    rw [size_list] at hl
    have S := split_yes (bs (text stem.data.toList k.toNat)) (by rw [bs_size]; omega) h4
    rw [bs_list, h5, h6, bs_of] at S
    rw [h3]
    rw [show ((k.toNat : Nat) : Int) = k by omega] at S
    exact S
  · refine .inr ⟨(joinV stem.data.toList k).2, by simpa using h, by rw [joinV_bad _ _ h] at J; exact J, ?_⟩
    exact split_no ⟨#[]⟩ (by decide) 6 (by decide +kernel) (by omega)
set_option maxRecDepth 100000 in
set_option maxHeartbeats 2000000 in
theorem NameBack_walk (s stem : ByteArray) (v : Int) (hs : s.size ≤ 140737488355328) (hst : stem.size ≤ 140737488355328) (hv : 0 ≤ v ∧ v ≤ 65535) (w : World) (T : Tab w) :
    Calls Tryd.prog 4 #[.string s, .string stem, .int .u16 v] w fun e w' => e = .returned (.bool true) ∧ Below w.heap.size w w' := by
  have HT := Lib.hid T
  clear T
  obtain ⟨hv1, hv2⟩ := hv
  have hb := Below.refl w.heap.size w
  have AW := awakeS
  have hk0 : 0 ≤ v % 1000 := by omega
  have hk1 : v % 1000 < 1000 := by omega
  by_cases h : chk s.data.toList = 0
  · have S1 := split_yes s (by omega) h
    have J1 := joinS (bs (pre s.data.toList)) (ver (post s.data.toList) : Nat) (by have := pre_size s; omega)
    rw [bs_list, join_split _ h, bs_of] at J1
    have hver := ver_le (post s.data.toList)
    clear h
    generalize bs (pre s.data.toList) = A at *
    generalize ver (post s.data.toList) = V at *
    have g1 : ¬ 999 < (V : Int) := by omega
    rcases back_ways stem (v % 1000) hst with ⟨t, J2, S2⟩ | ⟨f, hf, J2, S2⟩
    · go_enter Tryd.func4, Tryd.ntmps4
      go_wp2_with (first | (go_at_call 9; first | (with_reducible refine (inw S1 w _ hb).mono ?_; rintro e w1 ⟨rfl, hb⟩) | (with_reducible refine (inw S2 w _ hb).mono ?_; rintro e w1 ⟨rfl, hb⟩)) | (go_at_call 6; first | (with_reducible refine (inT J1 w HT _ hb).mono ?_; rintro e w1 ⟨rfl, hb⟩) | (with_reducible refine (inT J2 w HT _ hb).mono ?_; rintro e w1 ⟨rfl, hb⟩)) | (go_at_call 8; refine (inw AW w _ hb).mono ?_; rintro e w1 ⟨rfl, hb⟩))
      go_ret
      exact ⟨rfl, hb⟩
    · go_enter Tryd.func4, Tryd.ntmps4
      go_wp2_with (first | (go_at_call 9; first | (with_reducible refine (inw S1 w _ hb).mono ?_; rintro e w1 ⟨rfl, hb⟩) | (with_reducible refine (inw S2 w _ hb).mono ?_; rintro e w1 ⟨rfl, hb⟩)) | (go_at_call 6; first | (with_reducible refine (inT J1 w HT _ hb).mono ?_; rintro e w1 ⟨rfl, hb⟩) | (with_reducible refine (inT J2 w HT _ hb).mono ?_; rintro e w1 ⟨rfl, hb⟩)) | (go_at_call 8; refine (inw AW w _ hb).mono ?_; rintro e w1 ⟨rfl, hb⟩))
      go_ret
      exact ⟨rfl, hb⟩
  · have S1 := split_no s (by omega) _ rfl h
    have CK := checkS s (by omega) _ rfl
    have h' : (chk s.data.toList == 0) = false := by simpa using h
    clear h
    generalize chk s.data.toList = q at *
    rcases back_ways stem (v % 1000) hst with ⟨t, J2, S2⟩ | ⟨f, hf, J2, S2⟩
    · go_enter Tryd.func4, Tryd.ntmps4
      go_wp2_with (first | (go_at_call 9; first | (with_reducible refine (inw S1 w _ hb).mono ?_; rintro e w1 ⟨rfl, hb⟩) | (with_reducible refine (inw S2 w _ hb).mono ?_; rintro e w1 ⟨rfl, hb⟩)) | (go_at_call 6; first | (with_reducible refine (inT J2 w HT _ hb).mono ?_; rintro e w1 ⟨rfl, hb⟩)) | (go_at_call 10; refine (inw CK w _ hb).mono ?_; rintro e w1 ⟨rfl, hb⟩) | (go_at_call 8; refine (inw AW w _ hb).mono ?_; rintro e w1 ⟨rfl, hb⟩))
      go_ret
      exact ⟨rfl, hb⟩
    · go_enter Tryd.func4, Tryd.ntmps4
      go_wp2_with (first | (go_at_call 9; first | (with_reducible refine (inw S1 w _ hb).mono ?_; rintro e w1 ⟨rfl, hb⟩) | (with_reducible refine (inw S2 w _ hb).mono ?_; rintro e w1 ⟨rfl, hb⟩)) | (go_at_call 6; first | (with_reducible refine (inT J2 w HT _ hb).mono ?_; rintro e w1 ⟨rfl, hb⟩)) | (go_at_call 10; refine (inw CK w _ hb).mono ?_; rintro e w1 ⟨rfl, hb⟩) | (go_at_call 8; refine (inw AW w _ hb).mono ?_; rintro e w1 ⟨rfl, hb⟩))
      go_ret
      exact ⟨rfl, hb⟩
end Go.Proofs.YtenilpofmfcofaaDoor.WK
